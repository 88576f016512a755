package poly

import "math/bits"

// number is a number modulo 2^130 - 5 in five digits of 26 bits, the lowest first. The first digit may be greater: in what times answers it is below 2^35, so that of the next product no digit comes near 2^64.
type number [5]uint64

const (
	width = 26
	mask  = 1<<width - 1
)

// read is the number of at most sixteen bytes with a byte 1 behind them.
func read(block []byte) number {
	var b [blockSize]byte
	copy(b[:], block)
	if len(block) == blockSize {
		return digits(b[:], 1)
	}
	b[len(block)] = 1
	return digits(b[:], 0)
}

// digits is the number of sixteen bytes, the lowest first, and of one more behind them.
func digits(b []byte, behind uint64) number {
	low, high := word(b), word(b[8:])
	return number{low & mask, low >> 26 & mask, (low>>52 | high<<12) & mask, high >> 14 & mask, high>>40 | behind<<24}
}

// plus is the sum of two numbers; its digits are not carried, for times does that.
func (n number) plus(m number) number {
	for i := range n {
		n[i] += m[i]
	}
	return n
}

// times is the product of a number and a factor. 2^130 is 5, so what would stand five digits up counts five times.
func (n number) times(m number) number {
	var product number
	for i, x := range n {
		for j, y := range m {
			if i+j < len(product) {
				product[i+j] += x * y
			} else {
				product[i+j-len(product)] += 5 * x * y
			}
		}
	}
	return product.up()
}

// up is the same number with what is too great for a digit added to the next, and from the last to the first.
func (n number) up() number {
	var over uint64
	for i := range n {
		n[i] += over
		over = n[i] >> width
		n[i] &= mask
	}
	n[0] += 5 * over
	return n
}

// least is the same number below 2^130 - 5.
func (n number) least() number {
	n = n.up().up() // where the first goes round, it may leave the first digit too great; but then all others are far from going round once more
	more := n
	more[0] += 5
	for i := range 4 {
		more[i+1] += more[i] >> width
		more[i] &= mask
	}
	// 5 more come to 2^130 just if the number isn't below 2^130 - 5. No branch, so that the time tells nothing of it.
	reached := -(more[4] >> width)
	more[4] &= mask
	for i := range n {
		n[i] = n[i]&^reached | more[i]&reached
	}
	return n
}

// tag is the number and that of sixteen bytes, added modulo 2^128.
func (n number) tag(behind []byte) Tag {
	n = n.least()
	low, over := bits.Add64(n[0]|n[1]<<26|n[2]<<52, word(behind), 0)
	high, _ := bits.Add64(n[2]>>12|n[3]<<14|n[4]<<40, word(behind[8:]), over)
	var t Tag
	for i := range 8 {
		t[i], t[8+i] = byte(low>>(8*i)), byte(high>>(8*i))
	}
	return t
}

// word is the number of eight bytes, the lowest first.
func word(b []byte) uint64 {
	var x uint64
	for i := range 8 {
		x |= uint64(b[i]) << (8 * i)
	}
	return x
}
