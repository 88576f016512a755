package frame

import "intaglio/api"

// reader takes pieces off the front of bytes. It stands still once some are lacking: all that it is asked for then is nought, so that one look at the end is enough.
type reader struct {
	rest    []byte
	lacking bool
}

// take is the next n bytes; none, if they are lacking.
func (r *reader) take(n int) []byte {
	if r.lacking || n > len(r.rest) {
		r.lacking = true
		return nil
	}
	taken := r.rest[:n]
	r.rest = r.rest[n:]
	return taken
}

// kind is what the next byte says.
func (r *reader) kind() int {
	var kind [kindSize]byte
	copy(kind[:], r.take(kindSize))
	return int(kind[0])
}

// key is the next one.
func (r *reader) key() api.Key {
	var key api.Key
	copy(key[:], r.take(keySize))
	return key
}

// number is the next one, of four bytes, the highest first.
func (r *reader) number() uint32 {
	var number uint32
	for _, x := range r.take(numberSize) {
		number = number<<8 | uint32(x)
	}
	return number
}

// sig is the next one.
func (r *reader) sig() api.Sig {
	var sig api.Sig
	copy(sig[:], r.take(sigSize))
	return sig
}

// lists is a frame of a kind with all that stands ahead of its data.
func (r *reader) lists(kind int, shape Shape) api.Frame {
	f := api.Frame{Kind: kind}
	for range shape.Keys {
		f.Keys = append(f.Keys, r.key())
	}
	for range shape.Nums {
		f.Nums = append(f.Nums, r.number())
	}
	for range shape.Sigs {
		f.Sigs = append(f.Sigs, r.sig())
	}
	return f
}
