package cell

import (
	"bytes"

	"intaglio/api"
)

// endless stands for as many bytes as anybody may want to write: the power is there.
const endless = -1

// Disk is a stand-in for a disk with two places: bytes that are written last, but the power may go at any byte.
type Disk struct {
	bytes []byte
	left  int // how many bytes more are written until the power is gone; below 0 it never is
}

// NewDisk: a disk of noughts, with places of so many bytes.
func NewDisk(room int) (*Disk, api.Errno) {
	if room < MinRoom || room > MaxRoom {
		return nil, api.ErrRange
	}
	return &Disk{bytes: make([]byte, places*room), left: endless}, api.OK
}

// Bytes: all that lies there.
func (d *Disk) Bytes() []byte { return bytes.Clone(d.bytes) }

// Break: the power goes behind so many bytes more; below 0 it doesn't.
func (d *Disk) Break(bytes int) { d.left = bytes }

// Mend: the power is there again.
func (d *Disk) Mend() { d.left = endless }

// Poke: a byte is another one.
func (d *Disk) Poke(at int, x byte) api.Errno {
	if at < 0 || at >= len(d.bytes) {
		return api.ErrRange
	}
	d.bytes[at] = x
	return api.OK
}

// room is how many bytes a place has.
func (d *Disk) room() int { return len(d.bytes) / places }

// at is the bytes of place i.
func (d *Disk) at(i int) []byte { return d.bytes[i*d.room() : (i+1)*d.room()] }

// blank is whether the first place has noughts alone. The second says nothing: the very first record may have been cut off there.
func (d *Disk) blank() bool {
	for _, x := range d.at(0) {
		if x != 0 {
			return false
		}
	}
	return true
}

// write lays bytes down from the beginning of place i on; false, if the power is gone ahead of the last one.
func (d *Disk) write(i int, b []byte) bool {
	to := d.at(i)
	for j, x := range b {
		if d.left == 0 {
			return false
		}
		if d.left > 0 {
			d.left--
		}
		to[j] = x
	}
	return true
}
