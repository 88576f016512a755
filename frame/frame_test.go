package frame

import (
	"bytes"
	"encoding/binary"
	"math"
	"math/rand"
	"slices"
	"testing"

	"intaglio/api"
)

// row is what the chapter says of a kind.
type row struct {
	kind, keys, nums, sigs int
	data                   bool
	size                   int
}

// table: all kinds, as the chapter lists them; the sizes are counted by hand.
func table() []row {
	return []row{
		{1, 4, 2, 1, false, 201},
		{2, 3, 2, 0, true, 109},
		{3, 1, 2, 0, true, 45},
		{4, 3, 2, 0, false, 105},
		{5, 1, 2, 1, true, 109},
		{6, 3, 3, 1, true, 177},
		{7, 1, 1, 0, true, 41},
	}
}

// noKinds: numbers that are no kind, some of which have a kind's last byte.
func noKinds() []int {
	return []int{0, 8, 9, 99, 255, 256, 257, 263, 1<<16 + 3, 1<<32 + 1, -1, -7, -249, -255, math.MaxInt, math.MinInt, math.MinInt + 1}
}

// some: n bytes that differ from one another.
func some(n int) []byte {
	b := make([]byte, n)
	rand.New(rand.NewSource(int64(n))).Read(b)
	return b
}

// filled: a frame of so many of each, all of them different.
func filled(kind, keys, nums, sigs, data int) api.Frame {
	f := api.Frame{Kind: kind, Data: some(data)}
	for i := range keys {
		f.Keys = append(f.Keys, api.Key(some(32 + i)[i:]))
	}
	for i := range nums {
		f.Nums = append(f.Nums, uint32(0x81020304+i*0x10203040))
	}
	for i := range sigs {
		f.Sigs = append(f.Sigs, api.Sig(some(64 + i)[i:]))
	}
	return f
}

// of: a frame of a row with so many bytes of data, if it has any.
func (r row) of(data int) api.Frame {
	if !r.data {
		data = 0
	}
	return filled(r.kind, r.keys, r.nums, r.sigs, data)
}

// slow: a frame's bytes by the words of the promise.
func slow(r row, f api.Frame) []byte {
	var b bytes.Buffer
	b.WriteByte(byte(f.Kind))
	for _, part := range []any{f.Keys, f.Nums, f.Sigs} {
		binary.Write(&b, binary.BigEndian, part)
	}
	if r.data {
		binary.Write(&b, binary.BigEndian, uint32(len(f.Data)))
		b.Write(f.Data)
	}
	return b.Bytes()
}

// same: are two frames alike?
func same(f, g api.Frame) bool {
	return f.Kind == g.Kind && slices.Equal(f.Keys, g.Keys) && slices.Equal(f.Nums, g.Nums) && slices.Equal(f.Sigs, g.Sigs) && bytes.Equal(f.Data, g.Data)
}

// zero: is a frame's each field zero?
func zero(f api.Frame) bool {
	return f.Kind == 0 && f.Keys == nil && f.Nums == nil && f.Sigs == nil && f.Data == nil
}

// refuses: does Decode answer just that error?
func refuses(t *testing.T, what string, b []byte, want api.Errno) {
	t.Helper()
	if f, e := Decode(b); e != want || !zero(f) {
		t.Errorf("%s: %v, with kind %d, %d keys, %d numbers, %d signatures, %d bytes; not %v", what, e, f.Kind, len(f.Keys), len(f.Nums), len(f.Sigs), len(f.Data), want)
	}
}

// P11.1: the kinds have their numbers, and MaxData its own.
func TestKinds(t *testing.T) {
	if !slices.Equal([]int{Bundle, Hello, Letter, Chain, Post, Change, Envelope, MaxData}, []int{1, 2, 3, 4, 5, 6, 7, 16384}) {
		t.Error("a kind, or MaxData, has another number")
	}
}

// P11.1: the shape and the size of each kind, and of none.
func TestShapeOfAndSize(t *testing.T) {
	for _, r := range table() {
		if s, e := ShapeOf(r.kind); e != api.OK || s != (Shape{Keys: r.keys, Nums: r.nums, Sigs: r.sigs, Data: r.data}) {
			t.Errorf("ShapeOf %d: %v, %v", r.kind, s, e)
		}
		if n := Size(r.kind); n != r.size {
			t.Errorf("Size of %d: %d", r.kind, n)
		}
	}
	for _, kind := range noKinds() {
		if s, e := ShapeOf(kind); e != api.ErrShape || s != (Shape{}) {
			t.Errorf("ShapeOf %d: %v, %v", kind, s, e)
		}
		if n := Size(kind); n != 0 {
			t.Errorf("Size of %d: %d", kind, n)
		}
	}
}

// P11.2 and P11.3: the example of the chapter, byte by byte.
func TestTheChapter(t *testing.T) {
	f := api.Frame{Kind: Envelope, Keys: []api.Key{{7}}, Nums: []uint32{258}, Data: []byte("x")}
	want := slices.Concat([]byte{7, 7}, make([]byte, 31), []byte{0, 0, 1, 2, 0, 0, 0, 1, 'x'})
	if b, e := Encode(f); e != api.OK || len(b) != 42 || !bytes.Equal(b, want) {
		t.Errorf("Encode: %x, %v", b, e)
	}
	if g, e := Decode(want); e != api.OK || !same(f, g) {
		t.Errorf("Decode: %v, %v", g, e)
	}
}

// P11.1, P11.2 and P11.3: frames of all kinds, with as much data as there may be, there and back.
func TestThereAndBack(t *testing.T) {
	for _, r := range table() {
		for _, n := range []int{0, 1, 2, 255, 256, 257, 4096, MaxData - 1, MaxData} {
			f := r.of(n)
			b, e := Encode(f)
			if e != api.OK || !bytes.Equal(b, slow(r, f)) || len(b) != r.size+len(f.Data) {
				t.Fatalf("Encode of kind %d with %d bytes: %d bytes, %v", r.kind, n, len(b), e)
			}
			if g, e := Decode(b); e != api.OK || !same(f, g) {
				t.Errorf("Decode of kind %d with %d bytes: %v", r.kind, n, e)
			}
		}
	}
}

// P11.2 and P11.3: numbers at their edges.
func TestNumbers(t *testing.T) {
	for _, n := range []uint32{0, 1, 255, 256, 65535, 65536, 1<<24 - 1, 1 << 24, 1<<31 - 1, 1 << 31, math.MaxUint32} {
		f := api.Frame{Kind: Change, Keys: make([]api.Key, 3), Nums: []uint32{n, ^n, n ^ 0x0f1e2d3c}, Sigs: make([]api.Sig, 1)}
		b, e := Encode(f)
		if e != api.OK || binary.BigEndian.Uint32(b[97:]) != n || binary.BigEndian.Uint32(b[101:]) != ^n {
			t.Errorf("Encode with %d: %x, %v", n, b[97:109], e)
		}
		if g, e := Decode(b); e != api.OK || !same(f, g) {
			t.Errorf("Decode with %d: %v, %v", n, g.Nums, e)
		}
	}
}

// P11.2: no data is as good as nil.
func TestEncodeOfNoData(t *testing.T) {
	for _, r := range table() {
		f, g := r.of(0), r.of(0)
		f.Data, g.Data = nil, make([]byte, 0, 9)
		one, e := Encode(f)
		two, e2 := Encode(g)
		if e != api.OK || e2 != api.OK || !bytes.Equal(one, two) || len(one) != r.size {
			t.Errorf("kind %d: %v and %v", r.kind, e, e2)
		}
	}
}

// P11.2: any other count of keys, numbers or signatures, and data where there is to be none.
func TestEncodeOfOtherShapes(t *testing.T) {
	for _, r := range table() {
		for i := range 6 * 6 * 6 * 2 {
			keys, nums, sigs, data := i%6, i/6%6, i/36%6, i/216
			want := api.ErrShape
			if keys == r.keys && nums == r.nums && sigs == r.sigs && (data == 0 || r.data) {
				want = api.OK
			}
			if b, e := Encode(filled(r.kind, keys, nums, sigs, data)); e != want || e != api.OK && b != nil {
				t.Errorf("kind %d with %d, %d, %d, %d: %d bytes, %v", r.kind, keys, nums, sigs, data, len(b), e)
			}
		}
	}
	for _, kind := range noKinds() {
		for _, r := range append(table(), row{}) {
			f := r.of(0)
			f.Kind = kind
			if b, e := Encode(f); e != api.ErrShape || b != nil {
				t.Errorf("kind %d: %x, %v", kind, b, e)
			}
		}
	}
}

// P11.2: too much data; a wrong shape is told ahead of it.
func TestEncodeOfTooMuch(t *testing.T) {
	for _, r := range table() {
		f := r.of(0)
		want := api.ErrLong
		if !r.data {
			want = api.ErrShape
		}
		for _, n := range []int{MaxData + 1, 2 * MaxData, 1 << 16, 1<<24 + 1} {
			f.Data = make([]byte, n)
			if b, e := Encode(f); e != want || b != nil {
				t.Errorf("kind %d with %d bytes: %d bytes, %v", r.kind, n, len(b), e)
			}
		}
		f.Keys = f.Keys[1:]
		if b, e := Encode(f); e != api.ErrShape || b != nil {
			t.Errorf("kind %d, a key too few: %d bytes, %v", r.kind, len(b), e)
		}
	}
}

// P11.3: nothing, and a first byte that is no kind, whatever follows.
func TestDecodeOfNoKind(t *testing.T) {
	refuses(t, "nil", nil, api.ErrShort)
	refuses(t, "nothing", []byte{}, api.ErrShort)
	for first := range 256 {
		if first >= 1 && first <= 7 {
			continue
		}
		for _, n := range []int{0, 1, 40, 41, 108, 300, 70000} {
			refuses(t, "no kind", append([]byte{byte(first)}, some(n)...), api.ErrShape)
		}
	}
}

// P11.3: bytes that end anywhere, or go on.
func TestDecodeOfTooLittleAndTooMuch(t *testing.T) {
	for _, r := range table() {
		for _, n := range []int{0, 1, 300} {
			whole := slow(r, r.of(n))
			for cut := 1; cut < len(whole); cut++ {
				refuses(t, "cut", whole[:cut], api.ErrShort)
				refuses(t, "cut, with no room behind", slices.Clip(bytes.Clone(whole[:cut])), api.ErrShort)
			}
			for _, more := range []int{1, 2, 4, 64, 70000} {
				refuses(t, "with more", append(bytes.Clone(whole), make([]byte, more)...), api.ErrRest)
			}
			refuses(t, "twice", slices.Concat(whole, whole), api.ErrRest)
		}
	}
}

// P11.3: counts of data that are too great, whatever follows, ahead of all that may be told of the data.
func TestDecodeOfTooMuchData(t *testing.T) {
	for _, r := range table() {
		if !r.data {
			continue
		}
		head := slow(r, r.of(0))
		head = head[:len(head)-4]
		for _, n := range []uint32{MaxData + 1, 1 << 15, 1 << 16, 1 << 24, 1<<24 + 1, 1<<31 - 1, 1 << 31, math.MaxUint32} {
			b := binary.BigEndian.AppendUint32(bytes.Clone(head), n)
			for _, more := range []int{0, 1, MaxData, MaxData + 1, MaxData + 2, 1 << 16} {
				refuses(t, "too great a count", append(bytes.Clone(b), make([]byte, more)...), api.ErrLong)
			}
		}
		b := binary.BigEndian.AppendUint32(bytes.Clone(head), MaxData)
		refuses(t, "one too few", append(bytes.Clone(b), make([]byte, MaxData-1)...), api.ErrShort)
		refuses(t, "one too many", append(bytes.Clone(b), make([]byte, MaxData+1)...), api.ErrRest)
		if f, e := Decode(append(bytes.Clone(b), make([]byte, MaxData)...)); e != api.OK || len(f.Data) != MaxData {
			t.Errorf("kind %d: %d bytes of data, %v", r.kind, len(f.Data), e)
		}
	}
}

// P11.3 and P1: any bytes are refused, or they are just the Encode of what they are read as.
func TestDecodeOfAnyBytes(t *testing.T) {
	rng := rand.New(rand.NewSource(11))
	taken := 0
	for range 20000 {
		r := table()[rng.Intn(7)]
		b := slow(r, r.of(rng.Intn(40)))
		for range rng.Intn(3) {
			switch at := rng.Intn(len(b)); rng.Intn(4) {
			case 0:
				b[at] ^= byte(1 << rng.Intn(8))
			case 1:
				b = slices.Delete(b, at, at+1)
			case 2:
				b = slices.Insert(b, at, byte(rng.Intn(256)))
			default:
				b[0] = byte(rng.Intn(9))
			}
			if len(b) == 0 {
				break
			}
		}
		f, e := Decode(b)
		if e != api.OK {
			if !zero(f) {
				t.Fatalf("%x: %v beside %v", b, f, e)
			}
			continue
		}
		taken++
		if again, e := Encode(f); e != api.OK || !bytes.Equal(again, b) {
			t.Fatalf("%x is read, but written as %x, %v", b, again, e)
		}
	}
	if taken < 5000 {
		t.Errorf("only %d were read", taken)
	}
}

// P2: Encode neither changes nor keeps a frame, its lists' spare room neither; answers share no memory.
func TestEncodeIsApart(t *testing.T) {
	for _, r := range table() {
		f := r.of(50)
		f.Keys, f.Nums, f.Sigs, f.Data = append(f.Keys, api.Key{1}), append(f.Nums, 2), append(f.Sigs, api.Sig{3}), append(f.Data, 4)
		full := api.Frame{Kind: f.Kind, Keys: slices.Clone(f.Keys), Nums: slices.Clone(f.Nums), Sigs: slices.Clone(f.Sigs), Data: slices.Clone(f.Data)}
		short := f
		short.Keys, short.Nums, short.Sigs, short.Data = f.Keys[:r.keys], f.Nums[:r.nums], f.Sigs[:r.sigs], f.Data[:len(f.Data)-1]
		want := slow(r, short)
		one, _ := Encode(short)
		two, e := Encode(short)
		clear(one[:cap(one)])
		Encode(f) // refused
		if e != api.OK || !bytes.Equal(two, want) || !same(f, full) {
			t.Errorf("kind %d: %v, or what was handed in is changed", r.kind, e)
		}
		clear(f.Keys)
		clear(f.Nums)
		clear(f.Sigs)
		clear(f.Data)
		if !bytes.Equal(two, want) {
			t.Errorf("kind %d: what was handed in is kept", r.kind)
		}
	}
}

// P2: Decode neither changes nor keeps bytes, their spare room neither; the lists of answers share no memory.
func TestDecodeIsApart(t *testing.T) {
	for _, r := range table() {
		want := r.of(50)
		b := slow(r, want)
		room := append(bytes.Clone(b), 1, 2, 3, 4)
		before := bytes.Clone(room)
		one, _ := Decode(room[:len(b)])
		two, e := Decode(room[:len(b)])
		clear(one.Data[:cap(one.Data)])
		clear(one.Keys[:cap(one.Keys)])
		clear(one.Nums[:cap(one.Nums)])
		clear(one.Sigs[:cap(one.Sigs)])
		Decode(room) // refused
		if e != api.OK || !same(two, want) || !bytes.Equal(room, before) {
			t.Errorf("kind %d: %v, or what was handed in is changed", r.kind, e)
		}
		clear(room)
		if !same(two, want) {
			t.Errorf("kind %d: what was handed in is kept", r.kind)
		}
	}
}
