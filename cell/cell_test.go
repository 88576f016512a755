package cell

import (
	"bytes"
	"crypto/sha256"
	"encoding/binary"
	"math"
	"math/rand"
	"slices"
	"testing"

	"intaglio/api"
)

// some: n bytes that differ from one another.
func some(n int) []byte {
	b := make([]byte, n)
	rand.New(rand.NewSource(int64(n))).Read(b)
	return b
}

// slow: a record by the words of the promise, with another SHA-256.
func slow(number uint64, value []byte) []byte {
	front := binary.BigEndian.AppendUint64(nil, number)
	front = binary.BigEndian.AppendUint32(front, uint32(len(value)))
	sum := sha256.Sum256(slices.Concat(front, value))
	return slices.Concat(front, sum[:], value)
}

// model: a disk by the words of the promises.
type model struct {
	room int
	b    []byte
	left int
}

func (m *model) keep(number uint64, value []byte) api.Errno {
	if len(value) > m.room-44 {
		return api.ErrFull
	}
	at := 0
	if number%2 == 1 {
		at = m.room
	}
	for i, x := range slow(number, value) {
		if m.left == 0 {
			return api.ErrDown
		}
		m.left--
		m.b[at+i] = x
	}
	return api.OK
}

// whole: the record with which a place begins.
func whole(b []byte) (uint64, []byte, bool) {
	number, count := binary.BigEndian.Uint64(b), int(binary.BigEndian.Uint32(b[8:]))
	if number < 1 || number > 281474976710655 || count > len(b)-44 {
		return 0, nil, false
	}
	value := b[44 : 44+count]
	return number, value, bytes.Equal(b[:44+count], slow(number, value))
}

func (m *model) open() (uint64, []byte, api.Errno) {
	n, v, ok := whole(m.b[:m.room])
	if !ok || n%2 == 1 {
		n, v = 0, nil
	}
	if o, w, ok := whole(m.b[m.room:]); ok && o%2 == 1 && o > n {
		n, v = o, w
	}
	if n == 0 && slices.Max(m.b[:m.room]) > 0 {
		return 0, nil, api.ErrTorn
	}
	return n, v, api.OK
}

// disk: a new one.
func disk(t testing.TB, room int) *Disk {
	t.Helper()
	d, e := NewDisk(room)
	if e != api.OK || d == nil {
		t.Fatalf("NewDisk(%d): %v", room, e)
	}
	return d
}

// laid: a new disk with other bytes than noughts in its places, from their beginning on.
func laid(t testing.TB, room int, first, second []byte) *Disk {
	t.Helper()
	d := disk(t, room)
	for i, place := range [][]byte{first, second} {
		for j, x := range place {
			if e := d.Poke(i*room+j, x); e != api.OK {
				t.Fatalf("Poke(%d): %v", i*room+j, e)
			}
		}
	}
	return d
}

// has: is just this kept on the disk?
func has(t testing.TB, what string, d *Disk, number uint64, value []byte) *Cell {
	t.Helper()
	before := d.Bytes()
	c, e := Open(d)
	if e != api.OK || c == nil {
		t.Fatalf("%s: Open: %v", what, e)
	}
	holds(t, what, c, number, value)
	if !bytes.Equal(d.Bytes(), before) {
		t.Errorf("%s: Open wrote", what)
	}
	return c
}

// holds: is this a cell's value?
func holds(t testing.TB, what string, c *Cell, number uint64, value []byte) {
	t.Helper()
	if c.Number() != number || !bytes.Equal(c.Value(), value) {
		t.Errorf("%s: %x with the number %d, not %x with %d", what, c.Value(), c.Number(), value, number)
	}
}

// torn: is nothing kept on the disk any more?
func torn(t testing.TB, what string, d *Disk) {
	t.Helper()
	if c, e := Open(d); e != api.ErrTorn || c != nil {
		t.Errorf("%s: Open: %v", what, e)
	}
}

// keep: it must be kept.
func keep(t testing.TB, c *Cell, parts ...[]byte) {
	t.Helper()
	if e := c.Keep(parts...); e != api.OK {
		t.Fatalf("Keep: %v", e)
	}
}

// The example of the chapter.
func TestTheChapter(t *testing.T) {
	d := disk(t, MinRoom)
	c := has(t, "a new disk", d, 0, nil)
	keep(t, c, []byte("a"), []byte("b"))
	holds(t, "kept", c, 1, []byte("ab"))
	has(t, "opened", d, 1, []byte("ab"))
}

// P13.1: the rooms that are taken; a new disk is noughts, and the power is there.
func TestNewDisk(t *testing.T) {
	if MinRoom != 64 || MaxRoom != 65536 {
		t.Errorf("the limits are %d and %d", MinRoom, MaxRoom)
	}
	for _, room := range []int{64, 65, 66, 100, 1000, 65535, 65536} {
		d := disk(t, room)
		if !bytes.Equal(d.Bytes(), make([]byte, 2*room)) {
			t.Errorf("a new disk with room %d: %d bytes, or others than noughts", room, len(d.Bytes()))
		}
		c := has(t, "new", d, 0, nil)
		for range 4 {
			keep(t, c, some(room-44))
		}
		has(t, "full", d, 4, some(room-44))
	}
	for _, room := range []int{math.MinInt, -65536, -64, -1, 0, 1, 44, 63, 65537, 1 << 17, 1 << 32, math.MaxInt} {
		if d, e := NewDisk(room); e != api.ErrRange || d != nil {
			t.Errorf("NewDisk(%d): %v", room, e)
		}
	}
}

// P13.1: each byte is there to be poked, and no other; Bytes has them all in their order.
func TestPoke(t *testing.T) {
	for _, room := range []int{64, 77} {
		d := disk(t, room)
		want := make([]byte, 2*room)
		for _, at := range rand.New(rand.NewSource(13)).Perm(2 * room) {
			want[at] = byte(at*7 + 1)
			if e := d.Poke(at, want[at]); e != api.OK || !bytes.Equal(d.Bytes(), want) {
				t.Errorf("room %d: Poke(%d): %v", room, at, e)
			}
		}
		for _, at := range []int{math.MinInt, -2 * room, -2, -1, 2 * room, 2*room + 1, 1 << 32, math.MaxInt} {
			if e := d.Poke(at, 1); e != api.ErrRange || !bytes.Equal(d.Bytes(), want) {
				t.Errorf("room %d: Poke(%d): %v", room, at, e)
			}
		}
	}
}

// P13.1 and P13.2: what is poked needs no power, and isn't counted as written.
func TestPokeWithoutPower(t *testing.T) {
	d := disk(t, 64)
	c := has(t, "new", d, 0, nil)
	d.Break(0)
	if e := d.Poke(3, 9); e != api.OK || d.Bytes()[3] != 9 {
		t.Errorf("Poke without power: %v", e)
	}
	d.Poke(3, 0)
	d.Break(44)
	for at := range 128 {
		d.Poke(at, 0)
	}
	keep(t, c)
	has(t, "behind pokes", d, 1, nil)
}

// P13.2: how many bytes are written, over several records too.
func TestBreak(t *testing.T) {
	for n := range 160 {
		d := disk(t, 64)
		m := &model{64, make([]byte, 128), n}
		c := has(t, "new", d, 0, nil)
		d.Break(n)
		for _, text := range []string{"one", "two and more", "", "three", "four"} {
			want := m.keep(c.Number()+1, []byte(text))
			if e := c.Keep([]byte(text)); e != want || !bytes.Equal(d.Bytes(), m.b) {
				t.Fatalf("%q behind %d bytes: %v, not %v, or other bytes", text, n, e, want)
			}
		}
		d.Mend()
		for range 5 {
			keep(t, c, some(20))
		}
	}
}

// P13.2: below 0 the power isn't gone; each Break counts anew.
func TestBreakAgain(t *testing.T) {
	d := disk(t, 64)
	c := has(t, "new", d, 0, nil)
	down := func(what string) {
		t.Helper()
		before := d.Bytes()
		if e := c.Keep([]byte("x")); e != api.ErrDown || !bytes.Equal(d.Bytes(), before) {
			t.Errorf("%s: %v, or something is written", what, e)
		}
	}
	for _, n := range []int{-1, -2, -1 << 32, math.MinInt} {
		d.Break(0)
		down("without power")
		d.Break(n)
		for range 9 {
			keep(t, c, []byte("y"))
		}
	}
	d.Break(3)
	d.Break(90)
	keep(t, c, []byte("z"))
	keep(t, c, []byte("z"))
	down("behind 90 bytes")
	d.Break(45)
	keep(t, c, []byte("z"))
	down("behind 45 more")
	d.Break(5)
	d.Mend()
	for range 9 {
		keep(t, c, []byte("y"))
	}
	d.Break(math.MaxInt)
	for range 9 {
		keep(t, c, []byte("y"))
	}
	d.Break(1 << 32)
	keep(t, c, []byte("y"))
	d.Break(0)
	down("without power once more")
	d.Mend()
	d.Mend()
	keep(t, c, []byte("y"))
}

// P13.3 and P13.4: what lies on the disk behind each Keep, byte by byte.
func TestRecords(t *testing.T) {
	for _, room := range []int{64, 65, 400} {
		d := disk(t, room)
		m := &model{room, make([]byte, 2*room), -1}
		c := has(t, "new", d, 0, nil)
		for n := uint64(1); n < 600; n++ {
			value := some(int(n*n) % (room - 43))
			keep(t, c, value)
			if m.keep(n, value); !bytes.Equal(d.Bytes(), m.b) {
				t.Fatalf("room %d: other bytes behind number %d", room, n)
			}
			holds(t, "kept", c, n, value)
			has(t, "opened", d, n, value)
			if n%7 == 0 {
				c = has(t, "opened", d, n, value)
			}
		}
	}
}

// P13.4: parts, one behind the other.
func TestKeepOfParts(t *testing.T) {
	d := disk(t, 100)
	c := has(t, "new", d, 0, nil)
	text := some(56)
	for i, parts := range [][][]byte{{}, {nil}, {{}, nil, {}}, {text}, {nil, text}, {text, {}}, {text[:1], text[1:55], nil, text[55:]}, {text[:20], text[:20]}, {text[9:], text[:9]}} {
		keep(t, c, parts...)
		holds(t, "kept", c, uint64(i+1), slices.Concat(parts...))
		has(t, "opened", d, uint64(i+1), slices.Concat(parts...))
	}
	var each [][]byte
	for i := range text {
		each = append(each, text[i:i+1])
	}
	keep(t, c, each...)
	has(t, "byte by byte", d, 10, text)
}

// P13.4: as much as there is room for, and one byte more; ErrFull is told ahead of ErrDown, and changes nothing.
func TestKeepOfTooMuch(t *testing.T) {
	for _, room := range []int{64, 65, 1000, 65536} {
		d := disk(t, room)
		c := has(t, "new", d, 0, nil)
		keep(t, c, []byte("one"))
		free := room - 44
		before := d.Bytes()
		for _, left := range []int{-1, 0, 10, 44 + free} {
			d.Break(left)
			big := some(2 * room)
			for _, parts := range [][][]byte{{big[:free+1]}, {big}, {big[:free], big[:1]}, {big[:1], nil, big[:free]}, {big[:free-1], big[:1], big[:1]}, {big[:free+1], nil}, slices.Repeat([][]byte{big}, 300)} {
				if e := c.Keep(parts...); e != api.ErrFull || !bytes.Equal(d.Bytes(), before) {
					t.Errorf("room %d, %d parts of %d bytes: %v", room, len(parts), len(parts[0]), e)
				}
				holds(t, "refused", c, 1, []byte("one"))
			}
		}
		value := some(free)
		keep(t, c, value[:free/2], value[free/2:]) // just so many bytes are left
		has(t, "full", d, 2, value)
		if e := c.Keep(); e != api.ErrDown {
			t.Errorf("room %d: no power, no bytes: %v", room, e)
		}
	}
}

// P13.4: whatever is cut off, it is the one before or the one behind; the cell goes on either way.
func TestEveryCut(t *testing.T) {
	values := [][]byte{some(30), {}, some(56), some(7), make([]byte, 20), some(56), {0}, {1}}
	for before := range values {
		for _, next := range values {
			for cut := range 44 + len(next) + 1 {
				d := disk(t, 100)
				m := &model{100, make([]byte, 200), -1}
				c := has(t, "new", d, 0, nil)
				for i, v := range values[:before] {
					keep(t, c, v)
					m.keep(uint64(i+1), v)
				}
				last := []byte{}
				if before > 0 {
					last = values[before-1]
				}
				n := uint64(before)
				d.Break(cut)
				m.left = cut
				want := m.keep(n+1, next)
				if e := c.Keep(next); e != want || (e == api.OK) != (cut == 44+len(next)) || !bytes.Equal(d.Bytes(), m.b) {
					t.Fatalf("%d values, %d bytes more, cut behind %d: %v, or other bytes", before, len(next), cut, e)
				}
				if want == api.OK {
					has(t, "whole", d, n+1, next)
					continue
				}
				holds(t, "cut", c, n, last)
				o, e := Open(d) // the last bytes may be the same as those that were there
				if number, value, f := m.open(); f != api.OK || e != f || o.Number() != number || !bytes.Equal(o.Value(), value) || number > n+1 || number < n {
					t.Fatalf("%d values, %d bytes more, cut behind %d: %v", before, len(next), cut, e)
				}
				d.Mend()
				if cut%2 == 1 {
					c = o
				}
				n = c.Number()
				keep(t, c, []byte("behind"))
				has(t, "behind", d, n+1, []byte("behind"))
			}
		}
	}
}

// P13.2 and P13.3: what is kept can be read without power.
func TestOpenWithoutPower(t *testing.T) {
	d := disk(t, 64)
	c := has(t, "new", d, 0, nil)
	keep(t, c, []byte("one"))
	d.Break(0)
	n := has(t, "without power", d, 1, []byte("one"))
	if c.Keep() != api.ErrDown || n.Keep() != api.ErrDown {
		t.Error("kept without power")
	}
	d.Mend()
	keep(t, n, []byte("two"))
}

// P13.3: which numbers count, and in which place.
func TestOpenByNumber(t *testing.T) {
	const most = 1<<48 - 1
	value, other := some(20), some(9)
	for _, n := range []uint64{0, 1, 2, 3, 4, 255, 256, 257, 65535, 65536, 1<<32 - 1, 1 << 32, 1<<32 + 1, most - 1, most, most + 1, most + 2, 1<<63 - 1, 1 << 63, 1<<63 + 1, math.MaxUint64 - 1, math.MaxUint64} {
		r := slow(n, value)
		counts := n >= 1 && n <= most
		if d := laid(t, 64, r, nil); counts && n%2 == 0 {
			has(t, "in the first place", d, n, value)
		} else {
			torn(t, "in the first place", d)
		}
		if d := laid(t, 64, nil, r); counts && n%2 == 1 {
			has(t, "in the second place", d, n, value)
		} else {
			has(t, "in the second place", d, 0, nil)
		}
		if d := laid(t, 64, r, r); counts {
			has(t, "in both", d, n, value)
		} else {
			torn(t, "in both", d)
		}
		if d := laid(t, 64, r, slow(3, other)); counts && n%2 == 0 && n > 3 {
			has(t, "ahead of 3", d, n, value)
		} else {
			has(t, "ahead of 3", d, 3, other)
		}
		if d := laid(t, 64, slow(4, other), r); counts && n%2 == 1 && n > 4 {
			has(t, "behind 4", d, n, value)
		} else {
			has(t, "behind 4", d, 4, other)
		}
	}
}

// P13.3: the greater number counts, by all of its bytes.
func TestOpenOfTwo(t *testing.T) {
	a, b := some(5), some(6)
	numbers := []uint64{1, 2, 3, 6, 127, 128, 254, 255, 256, 257, 511, 512, 65535, 65536, 1<<31 - 1, 1 << 31, 1<<32 - 1, 1 << 32, 1<<40 - 1, 1 << 40, 1<<48 - 2, 1<<48 - 1}
	for _, even := range numbers {
		for _, odd := range numbers {
			if even%2 == 1 || odd%2 == 0 {
				continue
			}
			d := laid(t, 70, slow(even, a), slow(odd, b))
			n, v := even, a
			if odd > even {
				n, v = odd, b
			}
			c := has(t, "two", d, n, v)
			keep(t, c, []byte("next"))
			if n+1 < 1<<48 {
				has(t, "the next", d, n+1, []byte("next"))
			}
			left := slow(max(even, odd), v) // the greater one lies where it lay
			if at := 70 * int(n%2); !bytes.Equal(d.Bytes()[at:at+len(left)], left) {
				t.Errorf("%d and %d: the next was written over the greater one", even, odd)
			}
		}
	}
}

// P13.3: how many bytes a record may say that its value has, and what may stand behind it.
func TestOpenByCount(t *testing.T) {
	for _, room := range []int{64, 65, 300, 65536} {
		full := some(room - 44)
		has(t, "a full place", laid(t, room, slow(2, full), nil), 2, full)
		has(t, "a full place", laid(t, room, nil, slow(3, full)), 3, full)
		has(t, "no bytes", laid(t, room, slow(2, nil), nil), 2, nil)
		has(t, "no bytes, then others", laid(t, room, append(slow(2, nil), some(room-44)...), some(room)), 2, nil)
		has(t, "some, then others", laid(t, room, append(slow(4, full[:9]), some(room-53)...), slow(3, full)), 4, full[:9])
		long := slow(2, some(room)) // fits by its sum, if it could go on into the second place
		torn(t, "across both places", laid(t, room, long[:room], long[room:]))
		long = slow(2, some(room-43))
		torn(t, "a byte too many", laid(t, room, long[:room], long[room:]))
		for _, count := range []uint32{uint32(room) - 43, uint32(room), 2 * uint32(room), 1 << 31, 1<<32 - 44, math.MaxUint32 - 1, math.MaxUint32} {
			front := binary.BigEndian.AppendUint32(binary.BigEndian.AppendUint64(nil, 2), count)
			sum := sha256.Sum256(append(front, full...))
			torn(t, "too great a count", laid(t, room, slices.Concat(front, sum[:], full), nil))
			binary.BigEndian.PutUint64(front, 3)
			sum = sha256.Sum256(append(front, full...))
			has(t, "too great a count in the second", laid(t, room, nil, slices.Concat(front, sum[:], full)), 0, nil)
		}
	}
}

// P13.3: a record with any bit changed doesn't count; with any byte behind it changed it does.
func TestOpenOfSpoiltRecords(t *testing.T) {
	one, two := some(3), some(10)
	first, second := slow(8, two), slow(7, one)
	for _, room := range []int{64, 80} {
		for at := range 2 * room {
			for bit := range 8 {
				d := laid(t, room, first, second)
				d.Poke(at, d.Bytes()[at]^1<<bit)
				if at < len(first) {
					has(t, "the greater one is spoilt", d, 7, one)
					for i := range second {
						d.Poke(room+i, 0)
					}
					torn(t, "the only one is spoilt", d)
				} else {
					has(t, "another byte is changed", d, 8, two)
				}
			}
		}
		for at := range second {
			d := laid(t, room, nil, second)
			d.Poke(room+at, second[at]^64)
			has(t, "the only one, in the second place, is spoilt", d, 0, nil)
			d.Poke(room-1, 1)
			torn(t, "and the first isn't noughts", d)
		}
	}
}

// P13.3: where nothing counts, just the first place tells whether something was ever kept.
func TestOpenOfNothing(t *testing.T) {
	for at := range 128 {
		d := disk(t, 64)
		for _, x := range []byte{1, 128, 255} {
			d.Poke(at, x)
			if at < 64 {
				torn(t, "a byte in the first place", d)
			} else {
				has(t, "a byte in the second", d, 0, nil)
			}
		}
		d.Poke(at, 0)
		has(t, "noughts again", d, 0, nil)
	}
	d := laid(t, 64, nil, some(64))
	c := has(t, "any bytes in the second place", d, 0, nil)
	keep(t, c, []byte("one"))
	has(t, "over them", d, 1, []byte("one"))
	torn(t, "any bytes in the first place", laid(t, 64, some(64), nil))
	torn(t, "any bytes in both", laid(t, 64, some(64), some(64)))
	has(t, "any bytes in the first, one in the second", laid(t, 64, some(64), slow(9, []byte("nine"))), 9, []byte("nine"))
}

// P13.3 and P13.4: behind the last number that counts the next one is written all the same, to its place.
func TestBehindTheLastNumber(t *testing.T) {
	const most = 1<<48 - 1
	d := laid(t, 64, nil, slow(most, []byte("last")))
	c := has(t, "the last", d, most, []byte("last"))
	keep(t, c, []byte("more"))
	holds(t, "more", c, most+1, []byte("more"))
	if r := slow(most+1, []byte("more")); !bytes.Equal(d.Bytes()[:len(r)], r) {
		t.Error("the next record isn't in the first place")
	}
	has(t, "the last that counts", d, most, []byte("last"))
}

// All of the layer: any acts, held against the model.
func TestAnyActs(t *testing.T) {
	for seed := range int64(300) {
		rng := rand.New(rand.NewSource(seed))
		room := 64 + rng.Intn(60)
		d := disk(t, room)
		m := &model{room, make([]byte, 2*room), -1}
		c := has(t, "new", d, 0, nil)
		number, value := uint64(0), []byte{}
		for range 200 {
			switch rng.Intn(8) {
			case 0:
				m.left = rng.Intn(200) - 20
				d.Break(m.left)
			case 1:
				m.left = -1
				d.Mend()
			case 2:
				if at, x := rng.Intn(2*room), byte(rng.Intn(256)); rng.Intn(3) == 0 {
					m.b[at] = x
					d.Poke(at, x)
				}
			case 3:
				n, v, e := m.open()
				o, f := Open(d)
				if e != f || (o == nil) != (e != api.OK) {
					t.Fatalf("seed %d: Open: %v, not %v", seed, f, e)
				}
				if e == api.OK {
					c, number, value = o, n, bytes.Clone(v)
				}
			default:
				next := some(rng.Intn(room - 40))
				e := m.keep(number+1, next)
				cut := rng.Intn(len(next) + 1)
				if f := c.Keep(next[:cut], next[cut:]); e != f {
					t.Fatalf("seed %d: Keep: %v, not %v", seed, f, e)
				}
				if e == api.OK {
					number, value = number+1, next
				}
			}
			holds(t, "any acts", c, number, value)
			if !bytes.Equal(d.Bytes(), m.b) {
				t.Fatalf("seed %d: other bytes", seed)
			}
		}
	}
}

// P2: what is handed in, its spare room too, is neither changed nor kept.
func TestKeepIsApart(t *testing.T) {
	room := some(50)
	before := bytes.Clone(room)
	for _, cuts := range [][]int{{20}, {5, 20}, {0, 20}, {20, 20}, {5, 10, 15, 20}} {
		for _, n := range []int{-1, 0, 50} {
			d := disk(t, 100)
			c := has(t, "new", d, 0, nil)
			parts, at := make([][]byte, 0, 9), 0
			for _, cut := range cuts {
				parts, at = append(parts, room[at:cut]), cut
			}
			d.Break(n)
			e := c.Keep(parts...)
			c.Keep(append(parts, make([]byte, 57))...) // refused
			if !bytes.Equal(room, before) || len(parts[0]) != cuts[0] || parts[:9][8] != nil {
				t.Errorf("parts to %v were changed", cuts)
			}
			clear(room)
			clear(parts)
			if e == api.OK {
				holds(t, "kept", c, 1, before[:20])
				has(t, "opened", d, 1, before[:20])
			} else {
				holds(t, "cut", c, 0, nil)
			}
			copy(room, before)
		}
	}
}

// P2: every answer is new memory, its spare room too.
func TestAnswersAreNew(t *testing.T) {
	d := disk(t, 100)
	c := has(t, "new", d, 0, nil)
	keep(t, c, []byte("one"))
	want := d.Bytes()
	for _, b := range [][]byte{d.Bytes(), c.Value(), has(t, "one", d, 1, []byte("one")).Value()} {
		b = b[:cap(b)]
		for i := range b {
			b[i] = 77
		}
	}
	holds(t, "behind a change of answers", c, 1, []byte("one"))
	n := has(t, "behind a change of answers", d, 1, []byte("one"))
	if !bytes.Equal(d.Bytes(), want) {
		t.Error("Bytes shares memory with the disk")
	}
	value, all := c.Value(), d.Bytes()
	for at := range 200 {
		d.Poke(at, 99)
	}
	holds(t, "behind pokes", c, 1, []byte("one"))
	holds(t, "behind pokes", n, 1, []byte("one"))
	keep(t, c, []byte("two"))
	if string(value) != "one" || !bytes.Equal(all, want) {
		t.Error("an answer changed behind a Keep")
	}
}

// P2: a disk knows nothing of another one.
func TestDisksAreApart(t *testing.T) {
	a, b := disk(t, 64), disk(t, 64)
	c := has(t, "a", a, 0, nil)
	b.Break(0)
	b.Poke(0, 1)
	keep(t, c, []byte("a"))
	has(t, "a", a, 1, []byte("a"))
	torn(t, "b", b)
}
