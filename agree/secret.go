package agree

import (
	"bytes"

	"intaglio/api"
	"intaglio/ladder"
	"intaglio/mac"
	"intaglio/sha2"
)

const (
	agreeLabel = "signet agree"
	boundLabel = "signet bound"
	ahead      = 32 // how many bytes 255 stand ahead of the secrets: none of these is ever written so
)

// Secret is what both come to: a key, and what all letters are bound to.
type Secret struct{ Key, Bound api.Key }

// pair is somebody's own key, and the public one of the other with which it agrees.
type pair struct{ own, theirs api.Key }

// agreed is the secret of who begins and whose offer it is; the pairs are those of either, in one order for both.
func agreed(begins, offers Public, pairs ...pair) (Secret, api.Errno) {
	joint := bytes.Repeat([]byte{255}, ahead)
	for _, x := range pairs {
		secret, e := ladder.Agree(x.own, x.theirs)
		if e != api.OK {
			return Secret{}, e
		}
		joint = append(joint, secret[:]...)
	}
	keys, _ := mac.Keys(nil, joint, agreeLabel, 1) // so few are never refused
	bound := sha2.Sum256([]byte(boundLabel), begins.Sign[:], begins.Agree[:], offers.Sign[:], offers.Agree[:])
	return Secret{Key: keys[0], Bound: bound}, api.OK
}
