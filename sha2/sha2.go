// Package sha2 sums bytes: SHA-256 and SHA-512.
package sha2

import "intaglio/api"

// Sum256: the SHA-256 of all parts, one behind the other.
func Sum256(parts ...[]byte) api.Key {
	h := New256()
	h.Write(parts...)
	return h.Sum()
}

// Sum512: the SHA-512 of all parts, one behind the other.
func Sum512(parts ...[]byte) api.Sig {
	h := New512()
	h.Write(parts...)
	return h.Sum()
}
