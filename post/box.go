package post

import (
	"bytes"
	"slices"
)

// box is what waits for somebody.
type box struct {
	frames [][]byte // the eldest first
}

// size is how many bytes wait.
func (b *box) size() int {
	sum := 0
	for _, f := range b.frames {
		sum += len(f)
	}
	return sum
}

// hasRoom tells whether one frame of so many bytes more may wait.
func (b *box) hasRoom(size int) bool {
	return len(b.frames) < MaxBox && b.size()+size <= MaxBytes
}

// put lets a copy of a frame wait behind the others: one for each box, as it is handed out as it stands there.
func (b *box) put(f []byte) {
	b.frames = append(b.frames, bytes.Clone(f))
}

// take answers the frame at a place, which doesn't wait any more.
func (b *box) take(at int) []byte {
	f := b.frames[at]
	b.frames = slices.Delete(b.frames, at, at+1)
	return f
}
