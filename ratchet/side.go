package ratchet

import (
	"intaglio/api"
	"intaglio/ladder"
	"intaglio/mac"
)

const (
	rootLabel  = "signet root"
	letterByte = 1 // of which a chain makes a letter's key
	chainByte  = 2 // of which it makes itself anew, so that nobody comes back from it to the keys that were taken
)

// Side is a chain of keys, one for each letter.
type Side struct {
	Chain api.Key
	Count uint32
	Open  bool
}

// next is the side behind its next key, and that key.
func (d Side) next() (Side, api.Key, api.Errno) {
	if d.Count >= MaxCount {
		return Side{}, api.Key{}, api.ErrFull
	}
	key := mac.Sum(d.Chain[:], []byte{letterByte})
	d.Chain = mac.Sum(d.Chain[:], []byte{chainByte})
	d.Count++
	return d, key, api.OK
}

// turn is the root behind a turn, and the side that it turns to.
func (s State) turn() (api.Key, Side, api.Errno) {
	secret, e := ladder.Agree(s.Own, s.Theirs)
	if e != api.OK {
		return api.Key{}, Side{}, e
	}
	keys, _ := mac.Keys(s.Root[:], secret[:], rootLabel, 2) // so few are never refused
	return keys[0], Side{Chain: keys[1], Open: true}, api.OK
}
