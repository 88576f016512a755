package ladder

import "intaglio/field"

const (
	top   = 254    // the highest bit that a clamped number can have
	curve = 121665 // (486662 - 2) / 4: what a doubling needs of the curve
)

// ratio is a point's first coordinate as x/z, so that no step has to divide; z is nought for the point that has none.
type ratio struct{ x, z field.Elem }

// none is the point without coordinates.
func none() ratio { return ratio{x: field.Small(1)} }

// divided is the first coordinate itself; nought of the point that has none, since Invert answers nought of nought.
func (p ratio) divided() field.Elem { return field.Mul(p.x, p.z.Invert()) }

// turned is both points, turned about or not.
func turned(turn bool, p, q ratio) (ratio, ratio) {
	var a, b ratio
	a.x, b.x = field.Swap(turn, p.x, q.x)
	a.z, b.z = field.Swap(turn, p.z, q.z)
	return a, b
}

// step is p and p, and p and q; apart is the first coordinate of what q has more than p, which every step leaves as it is.
func step(p, q ratio, apart field.Elem) (ratio, ratio) {
	sum, difference := field.Add(p.x, p.z), field.Sub(p.x, p.z)
	straight := field.Mul(difference, field.Add(q.x, q.z))
	across := field.Mul(sum, field.Sub(q.x, q.z))
	return double(sum, difference), ratio{
		x: square(field.Add(straight, across)),
		z: field.Mul(apart, square(field.Sub(straight, across))),
	}
}

// double is twice the point of which x and z have this sum and this difference.
func double(sum, difference field.Elem) ratio {
	above, below := square(sum), square(difference)
	four := field.Sub(above, below) // 4 x z
	return ratio{
		x: field.Mul(above, below),
		z: field.Mul(four, field.Add(above, field.Mul(field.Small(curve), four))),
	}
}

// square is a number times itself.
func square(x field.Elem) field.Elem { return field.Mul(x, x) }
