package agree

import (
	"intaglio/api"
	"intaglio/frame"
	"intaglio/ladder"
	"intaglio/sign"
)

const offerLabel = "signet offer" // ahead of all else that is signed, so that no other signature can be an offer's

// Offer is what somebody leaves for those who want to begin.
type Offer struct {
	Public
	Pre, Once     api.Key // the zero key: there is no key for once
	PreID, OnceID uint32
	Sig           api.Sig
}

// Offer: a person's offer with these keys.
func (p Person) Offer(pre, once api.Key, preID, onceID uint32) Offer {
	o := Offer{Public: p.Public(), Pre: ladder.Public(pre), PreID: preID}
	if there(once) {
		o.Once, o.OnceID = ladder.Public(once), onceID
	}
	o.Sig = sign.Make(p.Sign, o.signed()...)
	return o
}

// Check: is it signed by whom it says?
func (o Offer) Check() api.Errno { return sign.Check(o.Sign, o.Sig, o.signed()...) }

// signed is the parts that are signed. The key for once is none of them: one signature serves for all of these.
func (o Offer) signed() [][]byte {
	return [][]byte{[]byte(offerLabel), o.Agree[:], o.Pre[:], raw(o.PreID)}
}

// raw is a number's four bytes, the highest first.
func raw(n uint32) []byte { return []byte{byte(n >> 24), byte(n >> 16), byte(n >> 8), byte(n)} }

// Frame: the offer as a frame.
func (o Offer) Frame() api.Frame {
	return api.Frame{
		Kind: frame.Bundle,
		Keys: []api.Key{o.Sign, o.Agree, o.Pre, o.Once},
		Nums: []uint32{o.PreID, o.OnceID},
		Sigs: []api.Sig{o.Sig},
	}
}

// Read: the offer of a frame.
func Read(f api.Frame) (Offer, api.Errno) {
	if _, e := frame.Encode(f); e != api.OK || f.Kind != frame.Bundle {
		return Offer{}, api.ErrShape
	}
	return Offer{
		Public: Public{Sign: f.Keys[0], Agree: f.Keys[1]},
		Pre:    f.Keys[2],
		Once:   f.Keys[3],
		PreID:  f.Nums[0],
		OnceID: f.Nums[1],
		Sig:    f.Sigs[0],
	}, api.OK
}
