package roster

import (
	"bytes"

	"intaglio/api"
	"intaglio/frame"
	"intaglio/sha2"
	"intaglio/sign"
)

// The changes.
const (
	Create  = 1 + iota // a group is made; its first member is its admin
	Add                // somebody belongs to it
	Remove             // somebody doesn't any more
	Promote            // somebody is an admin
	Demote             // somebody isn't any more
	Leave              // somebody goes
)

const (
	changeLabel = "signet change" // ahead of all else that is signed, so that no other signature can be a change's
	epochLabel  = "signet epoch"
)

// Step is a change: what, by whom, to whom; and, of somebody who is new, its keys.
type Step struct {
	Op, By, To  uint32
	Sign, Agree api.Key
	Note        []byte
}

// Make: a step as a signed frame.
func (r Roster) Make(seed api.Key, s Step) (api.Frame, api.Errno) {
	f := api.Frame{
		Kind: frame.Change,
		Keys: []api.Key{r.Hash, s.Sign, s.Agree},
		Nums: []uint32{s.Op, s.By, s.To},
		Sigs: []api.Sig{{}},
		Data: s.Note,
	}
	unsigned, e := frame.Encode(f)
	if e != api.OK {
		return api.Frame{}, e
	}
	f.Sigs[0] = sign.Make(seed, []byte(changeLabel), unsigned)
	f.Data = bytes.Clone(s.Note)
	return f, api.OK
}

// change is a step as a frame tells it, and the hash of the roster that it changes.
type change struct {
	Step
	ahead           api.Key
	sig             api.Sig
	whole, unsigned []byte // the frame's bytes, as it is and with the zero signature
}

// read is the change that a frame tells. Nobody asks for its note, so that stays in its bytes.
func read(f api.Frame) (change, api.Errno) {
	whole, e := frame.Encode(f)
	if e != api.OK || f.Kind != frame.Change || f.Nums[0] < Create || f.Nums[0] > Leave {
		return change{}, api.ErrShape
	}
	sig := f.Sigs[0]
	f.Sigs = []api.Sig{{}}
	unsigned, _ := frame.Encode(f) // it has the same shape
	step := Step{Op: f.Nums[0], By: f.Nums[1], To: f.Nums[2], Sign: f.Keys[1], Agree: f.Keys[2]}
	return change{Step: step, ahead: f.Keys[0], sig: sig, whole: whole, unsigned: unsigned}, api.OK
}

// check is layer 7's, under a key.
func (c change) check(public api.Key) api.Errno {
	return sign.Check(public, c.sig, []byte(changeLabel), c.unsigned)
}

// hash is that of the roster behind the change: as the change has the hash ahead of it, it is bound to all changes so far.
func (c change) hash() api.Key { return sha2.Sum256([]byte(epochLabel), c.whole) }
