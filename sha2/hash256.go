package sha2

import (
	"math/bits"

	"intaglio/api"
)

// size256 is how many bytes a block of SHA-256 has.
const size256 = 64

// Hash256 is a SHA-256 that is being made.
type Hash256 struct {
	tail
	state [8]uint32
}

// New256: of no bytes.
func New256() *Hash256 {
	h := &Hash256{}
	for i := range h.state {
		h.state[i] = uint32(first[i] >> 32)
	}
	return h
}

// Write: bytes more.
func (h *Hash256) Write(parts ...[]byte) {
	for _, part := range parts {
		h.feed(part, size256, h.block)
	}
}

// Count: how many bytes came in.
func (h *Hash256) Count() int { return h.count }

// Sum: the sum of all that came in; more may come.
func (h *Hash256) Sum() api.Key {
	end := *h // the padding goes to a copy, since more may come to h
	end.Write(h.padding(size256))
	var sum api.Key
	for i, x := range end.state {
		put32(sum[4*i:], x)
	}
	return sum
}

// block takes one block into the state.
func (h *Hash256) block(part []byte) {
	s := h.state
	a, b, c, d, e, f, g, last := s[0], s[1], s[2], s[3], s[4], s[5], s[6], s[7]
	w := words256(part)
	for i, x := range w {
		t := last + high256(e) + (e&f ^ ^e&g) + uint32(rounds[i]>>32) + x
		u := low256(a) + (a&b ^ a&c ^ b&c)
		a, b, c, d, e, f, g, last = t+u, a, b, c, d+t, e, f, g
	}
	for i, x := range [8]uint32{a, b, c, d, e, f, g, last} {
		h.state[i] += x
	}
}

// words256 is a block's words, and those that the standard makes of them: one for each round.
func words256(b []byte) [64]uint32 {
	var w [64]uint32
	for i := range 16 {
		w[i] = word32(b[4*i:])
	}
	for i := 16; i < len(w); i++ {
		x, y := w[i-15], w[i-2]
		low := bits.RotateLeft32(x, -7) ^ bits.RotateLeft32(x, -18) ^ x>>3
		high := bits.RotateLeft32(y, -17) ^ bits.RotateLeft32(y, -19) ^ y>>10
		w[i] = high + w[i-7] + low + w[i-16]
	}
	return w
}

// low256 is the standard's Σ0.
func low256(x uint32) uint32 {
	return bits.RotateLeft32(x, -2) ^ bits.RotateLeft32(x, -13) ^ bits.RotateLeft32(x, -22)
}

// high256 is the standard's Σ1.
func high256(x uint32) uint32 {
	return bits.RotateLeft32(x, -6) ^ bits.RotateLeft32(x, -11) ^ bits.RotateLeft32(x, -25)
}
