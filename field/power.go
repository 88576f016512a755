package field

import "intaglio/api"

// Power: a number to the power of 32 bytes, the lowest first.
func (x Elem) Power(k api.Key) Elem {
	made := Small(1)
	for i := 255; i >= 0; i-- {
		made = Mul(made, made)
		if k[i/8]>>(i%8)&1 == 1 {
			made = Mul(made, x)
		}
	}
	return made
}

// Invert: one divided by the number; of nought nought.
func (x Elem) Invert() Elem {
	return x.Power(filled(0xeb, 0x7f)) // p - 2: to the power p - 1, all but nought are 1
}

// Root: the even number whose square times v is u, if there is one.
func Root(u, v Elem) (Elem, bool) {
	x := candidate(u, v)
	square := Product(v, x, x)
	if Equal(square, u) {
		return even(x), true
	}
	if Equal(square, u.Neg()) {
		return even(Mul(x, rootOfMinusOne())), true
	}
	return Elem{}, false
}

// candidate is the x for which v x^2 is u or -u, if u/v has a root or -u/v has one; it takes no division.
func candidate(u, v Elem) Elem {
	cube := Product(v, v, v)
	seventh := Product(cube, cube, v)
	return Product(u, cube, Mul(u, seventh).Power(filled(0xfd, 0x0f))) // (p - 5) / 8
}

// rootOfMinusOne is a number whose square is -1: 2 is no square, so that 2 to the power (p - 1) / 2 is -1.
func rootOfMinusOne() Elem {
	return Small(2).Power(filled(0xfb, 0x1f)) // (p - 1) / 4
}

// even is that one of x and -x that isn't odd.
func even(x Elem) Elem {
	if x.Odd() {
		return x.Neg()
	}
	return x
}

// filled is 32 bytes: the lowest, the highest, and between them such as have all bits set.
func filled(low, high byte) api.Key {
	var k api.Key
	for i := range k {
		k[i] = 0xff
	}
	k[0], k[31] = low, high
	return k
}
