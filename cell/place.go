package cell

import (
	"bytes"

	"intaglio/mac"
	"intaglio/sha2"
)

const (
	places     = 2         // how many there are: a record never lies where the one ahead of it does
	numberSize = 8         // how many bytes a record's number has
	countSize  = 4         // and how many the count of its value's
	maxNumber  = 1<<48 - 1 // of a record that counts
)

// place is one of a disk's, with the number and the value of the record there; the number 0 is of none.
type place struct {
	disk   *Disk
	number uint64
	value  []byte
}

// place is what a disk's place i has; false, if it isn't whole or its record belongs to the other one.
func (d *Disk) place(i int) (place, bool) {
	b := d.at(i)
	number, count := read(b[:numberSize]), read(b[numberSize:numberSize+countSize])
	if number == 0 || number > maxNumber || count > uint64(len(b)-head) {
		return place{}, false
	}
	size := head + int(count)
	p := place{disk: d, number: number, value: bytes.Clone(b[head:size])}
	return p, p.index() == i && mac.Equal(p.record(), b[:size])
}

// index is which of its disk's places it is.
func (p place) index() int { return int(p.number % places) }

// write lays the record down; false, if the power is gone ahead of its last byte.
func (p place) write() bool { return p.disk.write(p.index(), p.record()) }

// record is the number, the value's count, the sum of both and the value, and the value.
func (p place) record() []byte {
	front := append(raw(p.number, numberSize), raw(uint64(len(p.value)), countSize)...)
	sum := sha2.Sum256(front, p.value)
	return bytes.Join([][]byte{front, sum[:], p.value}, nil)
}

// raw is a number as so many bytes, the highest first.
func raw(x uint64, size int) []byte {
	b := make([]byte, size)
	for i := range b {
		b[size-1-i] = byte(x)
		x >>= 8
	}
	return b
}

// read is the number that bytes say, the highest first.
func read(b []byte) uint64 {
	var x uint64
	for _, y := range b {
		x = x<<8 | uint64(y)
	}
	return x
}
