package sha2

// tail is what came in but is no block yet. It is an array, so that a copied hash shares nothing with the one it comes from.
type tail struct {
	rest  [size512]byte
	count int
}

// feed takes bytes in; each block of that size that is whole is handed to block.
func (t *tail) feed(part []byte, size int, block func([]byte)) {
	held := t.count % size
	t.count += len(part)
	if held > 0 {
		n := copy(t.rest[held:size], part)
		if held+n < size {
			return
		}
		block(t.rest[:size])
		part = part[n:]
	}
	for len(part) >= size {
		block(part[:size])
		part = part[size:]
	}
	copy(t.rest[:], part)
}

// padding is what the standard puts behind the last byte: a bit that is set, noughts, and how many bits came, at the end of a block.
func (t *tail) padding(size int) []byte {
	least := 1 + size/8 // the set bit's byte, and the number's field
	lacking := (size - (t.count+least)%size) % size
	pad := make([]byte, least+lacking)
	pad[0] = 0x80
	// The field of SHA-512 has 16 bytes, but what a program is given is far below 2^61 bytes: the upper 8 are nought.
	put64(pad[len(pad)-8:], uint64(t.count)*8)
	return pad
}

// word32 is four bytes as a word, the highest first.
func word32(b []byte) uint32 {
	return uint32(b[0])<<24 | uint32(b[1])<<16 | uint32(b[2])<<8 | uint32(b[3])
}

// word64 is eight bytes as a word, the highest first.
func word64(b []byte) uint64 {
	return uint64(word32(b))<<32 | uint64(word32(b[4:]))
}

// put32 lays a word down as four bytes, the highest first.
func put32(b []byte, x uint32) {
	b[0], b[1], b[2], b[3] = byte(x>>24), byte(x>>16), byte(x>>8), byte(x)
}

// put64 lays a word down as eight bytes, the highest first.
func put64(b []byte, x uint64) {
	put32(b, uint32(x>>32))
	put32(b[4:], uint32(x))
}
