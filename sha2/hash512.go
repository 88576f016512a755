package sha2

import (
	"math/bits"

	"intaglio/api"
)

// size512 is how many bytes a block of SHA-512 has.
const size512 = 128

// Hash512 is a SHA-512 that is being made.
type Hash512 struct {
	tail
	state [8]uint64
}

// New512: of no bytes.
func New512() *Hash512 { return &Hash512{state: first} }

// Write: bytes more.
func (h *Hash512) Write(parts ...[]byte) {
	for _, part := range parts {
		h.feed(part, size512, h.block)
	}
}

// Count: how many bytes came in.
func (h *Hash512) Count() int { return h.count }

// Sum: the sum of all that came in; more may come.
func (h *Hash512) Sum() api.Sig {
	end := *h // the padding goes to a copy, since more may come to h
	end.Write(h.padding(size512))
	var sum api.Sig
	for i, x := range end.state {
		put64(sum[8*i:], x)
	}
	return sum
}

// block takes one block into the state.
func (h *Hash512) block(part []byte) {
	s := h.state
	a, b, c, d, e, f, g, last := s[0], s[1], s[2], s[3], s[4], s[5], s[6], s[7]
	w := words512(part)
	for i, x := range w {
		t := last + high512(e) + (e&f ^ ^e&g) + rounds[i] + x
		u := low512(a) + (a&b ^ a&c ^ b&c)
		a, b, c, d, e, f, g, last = t+u, a, b, c, d+t, e, f, g
	}
	for i, x := range [8]uint64{a, b, c, d, e, f, g, last} {
		h.state[i] += x
	}
}

// words512 is a block's words, and those that the standard makes of them: one for each round.
func words512(b []byte) [80]uint64 {
	var w [80]uint64
	for i := range 16 {
		w[i] = word64(b[8*i:])
	}
	for i := 16; i < len(w); i++ {
		x, y := w[i-15], w[i-2]
		low := bits.RotateLeft64(x, -1) ^ bits.RotateLeft64(x, -8) ^ x>>7
		high := bits.RotateLeft64(y, -19) ^ bits.RotateLeft64(y, -61) ^ y>>6
		w[i] = high + w[i-7] + low + w[i-16]
	}
	return w
}

// low512 is the standard's Σ0.
func low512(x uint64) uint64 {
	return bits.RotateLeft64(x, -28) ^ bits.RotateLeft64(x, -34) ^ bits.RotateLeft64(x, -39)
}

// high512 is the standard's Σ1.
func high512(x uint64) uint64 {
	return bits.RotateLeft64(x, -14) ^ bits.RotateLeft64(x, -18) ^ bits.RotateLeft64(x, -41)
}
