package field

import "math/bits"

// twice is 2p in parts that are each above any part of an Elem, so that a difference never goes below nought.
var twice = [5]uint64{1<<52 - 38, 1<<52 - 2, 1<<52 - 2, 1<<52 - 2, 1<<52 - 2}

// Add: the sum of all.
func Add(list ...Elem) Elem {
	var sum Elem
	for _, x := range list {
		part := sum.part
		for i, p := range x.part {
			part[i] += p
		}
		sum = carried(part) // each time, since the list may have any length
	}
	return sum
}

// Neg: what is lacking to nought.
func (x Elem) Neg() Elem { return Sub(Elem{}, x) }

// Sub: one number less another.
func Sub(x, y Elem) Elem {
	part := x.part
	for i, p := range y.part {
		part[i] += twice[i] - p
	}
	return carried(part)
}

// Mul: one number times another. The products of parts are written out, since most of the program's time goes here.
func Mul(x, y Elem) Elem {
	x0, x1, x2, x3, x4 := x.part[0], x.part[1], x.part[2], x.part[3], x.part[4]
	y0, y1, y2, y3, y4 := y.part[0], y.part[1], y.part[2], y.part[3], y.part[4]
	w1, w2, w3, w4 := wrap*y1, wrap*y2, wrap*y3, wrap*y4 // for products that stand 255 bits too high
	z0, over := wide{}.plus(x0, y0).plus(x1, w4).plus(x2, w3).plus(x3, w2).plus(x4, w1).cut(0)
	z1, over := wide{}.plus(x0, y1).plus(x1, y0).plus(x2, w4).plus(x3, w3).plus(x4, w2).cut(over)
	z2, over := wide{}.plus(x0, y2).plus(x1, y1).plus(x2, y0).plus(x3, w4).plus(x4, w3).cut(over)
	z3, over := wide{}.plus(x0, y3).plus(x1, y2).plus(x2, y1).plus(x3, y0).plus(x4, w4).cut(over)
	z4, over := wide{}.plus(x0, y4).plus(x1, y3).plus(x2, y2).plus(x3, y1).plus(x4, y0).cut(over)
	z0 += wrap * over // over is below 2^57 here: nothing in the highest column was wrapped
	return Elem{[5]uint64{z0 & mask, z1 + z0>>width, z2, z3, z4}}
}

// Product: all numbers, one times the other.
func Product(list ...Elem) Elem {
	all := Small(1)
	for _, x := range list {
		all = Mul(all, x)
	}
	return all
}

// wide is a number of two words. Five products of parts, of which one factor each may be wrapped, are below 2^112.
type wide struct{ high, low uint64 }

// plus is w and one product more.
func (w wide) plus(x, y uint64) wide {
	high, low := bits.Mul64(x, y)
	low, carry := bits.Add64(w.low, low, 0)
	return wide{w.high + high + carry, low}
}

// cut is the lowest bits of w and over, as many as a part has, and what stands above them.
func (w wide) cut(over uint64) (uint64, uint64) {
	low, carry := bits.Add64(w.low, over, 0)
	return low & mask, (w.high+carry)<<(64-width) | low>>width
}

// carried is the number of any parts in parts below 2^51 + 2^18.
func carried(part [5]uint64) Elem {
	var x Elem
	over := wrap * (part[4] >> width)
	for i, p := range part {
		x.part[i] = p&mask + over
		over = p >> width
	}
	return x
}
