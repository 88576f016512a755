package point

import (
	"intaglio/api"
	"intaglio/field"
)

// Add: all points together.
func Add(list ...Point) Point {
	all := Zero()
	for _, p := range list {
		all = together(all, p)
	}
	return all
}

// Neg: the point that together with this one is the zero one.
func (p Point) Neg() Point { return Point{p.x.Neg(), p.y, p.z, p.t.Neg()} }

// Multiply: so many times a point.
func (p Point) Multiply(k api.Key) Point {
	made := Zero()
	for i := 255; i >= 0; i-- {
		made = together(made, made)
		if k[i/8]>>(i%8)&1 == 1 {
			made = together(made, p)
		}
	}
	return made
}

// Tiny: is eight times the point the zero one?
func (p Point) Tiny() bool {
	for range 3 {
		p = together(p, p)
	}
	return Equal(p, Zero())
}

// together is two points as one. Since d has no root, what the coordinates are divided by is never nought: no two points, alike or not, need a way of their own.
func together(p, q Point) Point {
	ones := field.Mul(p.z, q.z)
	bend := field.Mul(d(), field.Mul(p.t, q.t))
	belowX, belowY := field.Add(ones, bend), field.Sub(ones, bend)
	x := field.Add(field.Mul(p.x, q.y), field.Mul(q.x, p.y))
	y := field.Add(field.Mul(p.y, q.y), field.Mul(p.x, q.x))
	return Point{field.Mul(x, belowY), field.Mul(y, belowX), field.Mul(belowX, belowY), field.Mul(x, y)}
}
