package frame

import "intaglio/api"

const (
	kindSize   = 1 // how many bytes each part of a frame has
	keySize    = 32
	numberSize = 4
	sigSize    = 64
)

// Shape is how many keys, numbers and signatures a kind of frame has, and whether it has data.
type Shape struct {
	Keys, Nums, Sigs int
	Data             bool
}

var shapes = [...]Shape{
	Bundle:   {Keys: 4, Nums: 2, Sigs: 1},
	Hello:    {Keys: 3, Nums: 2, Data: true},
	Letter:   {Keys: 1, Nums: 2, Data: true},
	Chain:    {Keys: 3, Nums: 2},
	Post:     {Keys: 1, Nums: 2, Sigs: 1, Data: true},
	Change:   {Keys: 3, Nums: 3, Sigs: 1, Data: true},
	Envelope: {Keys: 1, Nums: 1, Data: true},
}

// ShapeOf: of a kind of frame.
func ShapeOf(kind int) (Shape, api.Errno) {
	if kind < Bundle || kind > Envelope {
		return Shape{}, api.ErrShape
	}
	return shapes[kind], api.OK
}

// Size: how many bytes a frame of a kind has beside its data.
func Size(kind int) int {
	shape, e := ShapeOf(kind)
	if e != api.OK {
		return 0
	}
	return shape.size()
}

// size is how many bytes frames of a shape have beside their data's.
func (s Shape) size() int {
	size := kindSize + s.Keys*keySize + s.Nums*numberSize + s.Sigs*sigSize
	if s.Data {
		size += numberSize
	}
	return size
}

// fits is whether a frame has just what a shape asks for; where that has data, there may be none.
func (s Shape) fits(f api.Frame) bool {
	return len(f.Keys) == s.Keys && len(f.Nums) == s.Nums && len(f.Sigs) == s.Sigs && (s.Data || len(f.Data) == 0)
}
