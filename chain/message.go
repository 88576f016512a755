package chain

import (
	"intaglio/aead"
	"intaglio/api"
	"intaglio/chacha"
	"intaglio/frame"
	"intaglio/mac"
)

const (
	messageLabel = "signet post"
	tagSize      = 16 // how many bytes a sealed text is longer
	maxText      = frame.MaxData - tagSize
	keySize      = 32
	nonceSize    = 12
)

// front is a message's bytes without its data and its signature: both hang on them, so that nobody moves them to another message.
func front(f api.Frame) []byte {
	f.Sigs, f.Data = []api.Sig{{}}, nil
	b, _ := frame.Encode(f) // it has a message's shape
	return b
}

// box is the one of a message's key. As each key is for one message, its nonce needn't be told.
func box(key api.Key) aead.Box {
	made, _ := mac.Expand(key, keySize+nonceSize, []byte(messageLabel)) // so few are never refused
	return aead.Box{Key: api.Key(made[:keySize]), Nonce: chacha.Nonce(made[keySize:])}
}
