package ratchet

import (
	"intaglio/aead"
	"intaglio/api"
	"intaglio/chacha"
	"intaglio/frame"
	"intaglio/mac"
)

const (
	letterLabel = "signet letter"
	tagSize     = 16 // how many bytes a sealed text is longer
	maxText     = frame.MaxData - tagSize
	nonceSize   = 12
)

// letter is what a letter tells beside its data: of which key it is, how many were sent with the one ahead of that, and which of this one it is.
type letter struct {
	key            api.Key
	before, number uint32
}

// frame is the letter without data.
func (l letter) frame() api.Frame {
	return api.Frame{Kind: frame.Letter, Keys: []api.Key{l.key}, Nums: []uint32{l.before, l.number}}
}

// front is the bytes of the letter without data: what the data are bound to, so that nobody moves them to another letter.
func (l letter) front() []byte {
	b, _ := frame.Encode(l.frame()) // it has a letter's shape
	return b
}

// box is the one of a letter's key. As each key is for one letter, its nonce needn't be told.
func box(key api.Key) aead.Box {
	keys, _ := mac.Keys(nil, key[:], letterLabel, 2) // so few are never refused
	return aead.Box{Key: keys[0], Nonce: chacha.Nonce(keys[1][:nonceSize])}
}
