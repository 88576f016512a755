package scalar

import "intaglio/api"

// words is how many words a key has.
const words = 8

// order is the group's order: words of 32 bits, the lowest first.
var order = [words]uint32{0x5cf5d3ed, 0x5812631a, 0xa2f79cd6, 0x14def9de, 0, 0, 0, 0x10000000}

// number is a number of so many words of 32 bits, the lowest first.
type number []uint32

// numberOf is the number of a key.
func numberOf(k api.Key) number {
	n := make(number, words)
	for i, b := range k {
		n[i/4] |= uint32(b) << (8 * (i % 4))
	}
	return n
}

// bytes is the number as four bytes a word, the lowest first.
func (n number) bytes() []byte {
	made := make([]byte, 4*len(n))
	for i := range made {
		made[i] = byte(n[i/4] >> (8 * (i % 4)))
	}
	return made
}

// push makes n 256 times n and b more, modulo the order. n has as many words as the order and is below it, and stays so.
func (n number) push(b byte) {
	over := uint32(b)
	for i, w := range n {
		n[i] = w<<8 | over
		over = w >> 24
	}
	// The order is hardly above 2^252: it is in n as often as 2^252 is, or once less.
	times := int64(over)<<4 | int64(n[words-1]>>28)
	if int64(over)+n.addOrder(-times) < 0 {
		n.addOrder(1)
	}
}

// addOrder makes n so many times the order more, or less if times is below 0; what goes beyond n's words is answered.
func (n number) addOrder(times int64) int64 {
	var over int64
	for i, w := range n {
		t := int64(w) + times*int64(order[i]) + over
		n[i] = uint32(t)
		over = t >> 32 // rounds down, so that what is lacking is owed by the next word
	}
	return over
}

// addTimes makes n so many times m more. Behind as many words as m has, n has one that is nought still.
func (n number) addTimes(m number, times uint32) {
	var over uint64
	for i, w := range m {
		t := uint64(n[i]) + uint64(w)*uint64(times) + over
		n[i] = uint32(t)
		over = t >> 32
	}
	n[len(m)] = uint32(over)
}
