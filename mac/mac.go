// Package mac makes sums with keys, and keys of keys.
package mac

import (
	"intaglio/api"
	"intaglio/sha2"
)

// MaxKeys is how many bytes one call makes at most.
const MaxKeys = 255 * 32

const (
	blockSize = 64                // how many bytes a key is filled up to
	sumSize   = 32                // how many bytes one sum has
	maxCount  = MaxKeys / sumSize // a sum's number is one byte, and none is 0
)

// Mac is a sum with a key that is being made: what comes in goes to its inner hash.
type Mac struct {
	*sha2.Hash256
	outer [blockSize]byte
}

// New: with a key.
func New(key []byte) *Mac {
	full := fill(key)
	inner := masked(full, 54)
	m := &Mac{Hash256: sha2.New256(), outer: masked(full, 92)}
	m.Write(inner[:])
	return m
}

// fill is a key of as many bytes as a block has.
func fill(key []byte) [blockSize]byte {
	var full [blockSize]byte
	if len(key) > blockSize {
		sum := sha2.Sum256(key)
		key = sum[:]
	}
	copy(full[:], key)
	return full
}

// masked is a key, each of its bytes taken together with x.
func masked(key [blockSize]byte, x byte) [blockSize]byte {
	for i := range key {
		key[i] ^= x
	}
	return key
}

// Sum: the sum with the key of all that came in.
func (m *Mac) Sum() api.Key {
	inner := m.Hash256.Sum()
	return sha2.Sum256(m.outer[:], inner[:])
}

// Sum: the sum with a key of all parts.
func Sum(key []byte, parts ...[]byte) api.Key {
	m := New(key)
	m.Write(parts...)
	return m.Sum()
}

// Equal: are two lists of bytes the same? All bytes are looked at, whichever differ first, so that the time tells nothing of where they do.
func Equal(a, b []byte) bool {
	if len(a) != len(b) {
		return false
	}
	var differ byte
	for i, x := range a {
		differ |= x ^ b[i]
	}
	return differ == 0
}
