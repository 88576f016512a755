package chain

import (
	"intaglio/api"
	"intaglio/mac"
)

const chainLabel = "signet chain"

// Place is where a chain belongs, and how far it is.
type Place struct {
	Group        api.Key // the hash of the epoch
	Epoch, Index uint32
	Key          api.Key
}

// next is the place behind its next key, and that key. Nobody comes back from the place behind it to keys that were taken.
func (p Place) next() (Place, api.Key, api.Errno) {
	if p.Index >= MaxIndex {
		return Place{}, api.Key{}, api.ErrFull
	}
	keys, _ := mac.Keys(p.Group[:], p.Key[:], chainLabel, 2) // so few are never refused
	p.Key = keys[1]
	p.Index++
	return p, keys[0], api.OK
}
