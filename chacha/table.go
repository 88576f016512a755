package chacha

import (
	"math/bits"

	"intaglio/api"
)

// table is the sixteen words that a block is made of: four rows of four.
type table [16]uint32

// begin is the table of a key and a nonce with a number, as it is ahead of all rounds.
func begin(key api.Key, n Nonce, number uint32) table {
	t := table{0x61707865, 0x3320646e, 0x79622d32, 0x6b206574} // the letters "expand 32-byte k"
	for i := range 8 {
		t[4+i] = word(key[4*i:])
	}
	t[12] = number
	for i := range 3 {
		t[13+i] = word(n[4*i:])
	}
	return t
}

// block is the bytes of the table behind all rounds, added to the table itself: without that the rounds could be gone back.
func (t table) block() [blockSize]byte {
	mixed := t
	for range 10 {
		mixed.twoRounds()
	}
	var b [blockSize]byte
	for i := range t {
		put(b[4*i:], mixed[i]+t[i])
	}
	return b
}

// twoRounds mixes the columns, and then the diagonals.
func (t *table) twoRounds() {
	for i := range 4 {
		t.quarter(i, 4+i, 8+i, 12+i)
	}
	for i := range 4 {
		t.quarter(i, 4+(i+1)%4, 8+(i+2)%4, 12+(i+3)%4)
	}
}

// quarter mixes the four words at these places.
func (t *table) quarter(a, b, c, d int) {
	t.half(a, b, c, d, 16, 12)
	t.half(a, b, c, d, 8, 7)
}

// half is the first half of a quarter, or with other turns the second.
func (t *table) half(a, b, c, d, first, second int) {
	t[a] += t[b]
	t[d] = bits.RotateLeft32(t[d]^t[a], first)
	t[c] += t[d]
	t[b] = bits.RotateLeft32(t[b]^t[c], second)
}

// word is the number of four bytes, the lowest first.
func word(b []byte) uint32 {
	return uint32(b[0]) | uint32(b[1])<<8 | uint32(b[2])<<16 | uint32(b[3])<<24
}

// put writes a number as four bytes, the lowest first.
func put(b []byte, x uint32) {
	for i := range 4 {
		b[i] = byte(x >> (8 * i))
	}
}
