package post

import (
	"bytes"
	"math"
	"math/rand"
	"slices"
	"testing"

	"intaglio/api"
	"intaglio/frame"
)

// edges: names at the ends of what numbers there are.
func edges() []uint32 {
	return []uint32{1 << 31, 0, math.MaxUint32, 1, 1<<31 - 1, 65536, 256}
}

// The limits have the chapter's numbers.
func TestLimits(t *testing.T) {
	if !slices.Equal([]int{MaxPeople, MaxOnce, MaxBox, MaxBytes}, []int{64, 100, 200, 65536}) {
		t.Error("a limit has another number")
	}
}

// P18.1: a new server knows nobody, whatever another one knows.
func TestNew(t *testing.T) {
	x := newPair(t, edges()...)
	y := newPair(t)
	if len(y.p.People()) != 0 {
		t.Errorf("%d", y.p.People())
	}
	for _, name := range edges() {
		y.fetch(api.ErrMissing, name)
		y.take(api.ErrMissing, name, 0)
		y.put(api.ErrMissing, name, some(1))
		y.send(api.ErrMissing, name, some(1))
		y.publish(api.ErrMissing, name, bundle(1))
		if y.p.Left(name) != 0 || y.p.Waiting(name) != 0 {
			t.Error("something is there")
		}
	}
	x.empties()
}

// P18.1: who is known, rising, each once, in whatever order they come.
func TestJoin(t *testing.T) {
	x := newPair(t, edges()...)
	for _, name := range edges() {
		x.join(name, api.ErrTwice)
	}
	want := edges()
	slices.Sort(want)
	if !slices.Equal(x.p.People(), want) {
		t.Errorf("%d", x.p.People())
	}
}

// P18.1: nothing is left and nothing waits for somebody new, and who joins twice loses nothing.
func TestJoinTwice(t *testing.T) {
	x := newPair(t, 1, 2)
	if x.p.Left(1) != 0 || x.p.Waiting(1) != 0 {
		t.Error("something is there for somebody new")
	}
	x.fetch(api.ErrMissing, 1)
	x.publish(api.OK, 1, bundle(1), bundles(2, 3)...)
	x.send(api.OK, 2, some(5), 1)
	x.join(1, api.ErrTwice)
	if x.p.Left(1) != 3 || x.p.Waiting(1) != 1 {
		t.Error("something is lost")
	}
	x.empties()
}

// P18.1: as many as there may be; who is there already is told ahead of the lack of room.
func TestJoinFull(t *testing.T) {
	x := newPair(t)
	for i := range uint32(64) {
		x.join(i*40503%65536, api.OK)
	}
	for _, name := range []uint32{40503 * 64 % 65536, 65536, math.MaxUint32} {
		x.join(name, api.ErrFull)
		x.send(api.ErrMissing, name, nil)
	}
	for i := range uint32(64) {
		x.join(i*40503%65536, api.ErrTwice)
	}
	everybody := x.s.names()
	x.send(api.OK, 0, some(100), everybody...)
	x.send(api.ErrMissing, 0, some(100), append(everybody, 65536)...)
	x.send(api.ErrTwice, 0, some(100), append(everybody, everybody[63])...)
	x.empties()
}

// P18.3: the example of the chapter.
func TestExample(t *testing.T) {
	p := New()
	p.Join(1)
	p.Join(2)
	if e := p.Send(1, []byte("x"), 2); e != api.OK || p.Waiting(2) != 1 || p.Waiting(1) != 0 {
		t.Fatalf("Send: %v", e)
	}
	b, e := p.Take(2, 0)
	f, g := frame.Decode(b)
	if e != api.OK || g != api.OK || !alike(f, api.Frame{Kind: frame.Envelope, Keys: []api.Key{{}}, Nums: []uint32{1}, Data: []byte("x")}) {
		t.Errorf("Take: %v, %v, %+v", e, g, f)
	}
}

// P18.2: those for once come out in their order, each once, then the offer again and again.
func TestPublishAndFetch(t *testing.T) {
	x := newPair(t, 1, 2)
	x.fetch(api.ErrMissing, 1)
	x.fetch(api.ErrMissing, 3)
	x.publish(api.OK, 1, bundle(1))
	for range 3 {
		x.fetch(api.OK, 1)
	}
	x.fetch(api.ErrMissing, 2)
	x.publish(api.OK, 1, bundle(2), bundles(3, 2)...)
	x.fetch(api.OK, 1)
	x.publish(api.OK, 1, bundle(5), bundle(6), bundle(6), bundle(5))
	x.publish(api.OK, 1, bundle(7))
	x.publish(api.OK, 2, bundle(8), bundle(9))
	var got []uint32
	for range 6 {
		f, e := x.p.Fetch(1)
		if e != api.OK {
			t.Fatal(e)
		}
		x.s.fetch(1)
		got = append(got, f.Nums[1])
	}
	if !slices.Equal(got, []uint32{4, 6, 6, 5, 7, 7}) {
		t.Errorf("%d", got)
	}
	x.empties()
}

// others: frames that are no offers, or can't be written.
func others() []api.Frame {
	changed := func(change func(f *api.Frame)) api.Frame {
		f := copied(bundle(5))
		change(&f)
		return f
	}
	list := []api.Frame{
		{}, {Kind: frame.Bundle},
		changed(func(f *api.Frame) { f.Keys = f.Keys[:3] }), changed(func(f *api.Frame) { f.Keys = append(f.Keys, api.Key{}) }),
		changed(func(f *api.Frame) { f.Nums = f.Nums[:1] }), changed(func(f *api.Frame) { f.Nums = append(f.Nums, 0) }),
		changed(func(f *api.Frame) { f.Sigs = nil }), changed(func(f *api.Frame) { f.Sigs = append(f.Sigs, api.Sig{}) }),
		changed(func(f *api.Frame) { f.Data = []byte{0} }), changed(func(f *api.Frame) { f.Data = make([]byte, frame.MaxData+1) }),
	}
	for _, kind := range []int{0, 2, 3, 4, 5, 6, 7, 8, 257, -1, math.MaxInt, math.MinInt} {
		list = append(list, changed(func(f *api.Frame) { f.Kind = kind }))
	}
	for kind := frame.Hello; kind <= frame.Envelope; kind++ { // those that can be written
		s, _ := frame.ShapeOf(kind)
		list = append(list, api.Frame{Kind: kind, Keys: make([]api.Key, s.Keys), Nums: make([]uint32, s.Nums), Sigs: make([]api.Sig, s.Sigs)})
	}
	return list
}

// P18.2: what is no offer's frame, in whatever place, and nothing of it is kept.
func TestPublishOfOthers(t *testing.T) {
	x := newPair(t, 1, 2)
	x.publish(api.OK, 1, bundle(1), bundles(2, 2)...)
	for _, f := range others() {
		for _, name := range []uint32{1, 2} {
			x.publish(api.ErrShape, name, f)
			x.publish(api.ErrShape, name, f, bundle(9))
			x.publish(api.ErrShape, name, bundle(9), f)
			x.publish(api.ErrShape, name, bundle(9), f, bundle(9))
			x.publish(api.ErrShape, name, bundle(9), append(bundles(9, 99), f)...)
			x.publish(api.ErrShape, name, bundle(9), append(bundles(9, 200), f)...) // ahead of ErrFull
			x.publish(api.ErrShape, name, f, bundles(9, 101)...)
		}
		x.publish(api.ErrMissing, 3, f)
		x.publish(api.ErrMissing, 3, bundle(9), f)
	}
	x.fetch(api.ErrMissing, 2)
	x.empties()
}

// P18.2: a frame's list that is empty may be nil or not.
func TestPublishOfEmptyData(t *testing.T) {
	x := newPair(t, 1)
	f := bundle(1)
	f.Data = make([]byte, 0, 5)
	x.publish(api.OK, 1, f, f)
	x.empties()
}

// P18.2: as many for once as there may be, at once or little by little, and what is refused isn't kept.
func TestPublishFull(t *testing.T) {
	x := newPair(t, 1, 2, 3)
	x.publish(api.ErrFull, 1, bundle(1), bundles(2, 101)...)
	x.fetch(api.ErrMissing, 1)
	x.publish(api.ErrFull, 1, bundle(1), bundles(2, 1000)...)
	x.publish(api.ErrMissing, 9, bundle(1), bundles(2, 101)...)
	x.publish(api.OK, 1, bundle(1), bundles(2, 100)...)
	x.publish(api.ErrFull, 1, bundle(200), bundle(201))
	x.publish(api.OK, 1, bundle(202))
	x.fetch(api.OK, 1)
	x.publish(api.ErrFull, 1, bundle(203), bundles(204, 2)...)
	x.publish(api.OK, 1, bundle(206), bundle(207))
	x.publish(api.ErrFull, 1, bundle(208), bundle(209))

	x.publish(api.OK, 2, bundle(300), bundles(301, 99)...)
	x.publish(api.ErrFull, 2, bundle(400), bundles(401, 2)...)
	x.publish(api.OK, 2, bundle(403), bundle(404))
	x.publish(api.ErrFull, 2, bundle(405), bundle(406))
	x.publish(api.OK, 3, bundle(500), bundles(501, 50)...)
	x.publish(api.ErrFull, 3, bundle(600), bundles(601, 51)...)
	x.publish(api.OK, 3, bundle(700), bundles(701, 50)...)
	x.empties()
	x.publish(api.OK, 1, bundle(800), bundles(801, 100)...) // there is room again
	x.empties()
}

// P18.3: what waits, for each of them, behind the others; nobody else gets anything.
func TestSend(t *testing.T) {
	x := newPair(t, append(edges(), 7)...)
	for i, n := range []int{0, 1, 2, 100, 255, 256, 16383, 16384} {
		from := edges()[i%7]
		x.send(api.OK, from, some(n), edges()[:i%4]...)
		x.send(api.OK, from, some(n), from)
		x.send(api.OK, from, some(n))
		x.send(api.OK, from, nil, edges()[3:]...)
	}
	for _, n := range []int{16385, 16386, 65536, 1<<24 + 1} {
		x.send(api.ErrLong, 1, make([]byte, n), 1)
		x.send(api.ErrLong, 1, make([]byte, n))
		x.send(api.ErrLong, 1, make([]byte, n), 8)
		x.send(api.ErrLong, 1, make([]byte, n), 1, 1)
		x.send(api.ErrMissing, 8, make([]byte, n), 1)
	}
	if x.p.Waiting(7) != 0 {
		t.Error("something waits for one to whom nothing was sent")
	}
	x.empties()
}

// P18.3: the first of those to whom it can't go decides, and for each of them the first reason; nobody gets anything.
func TestSendRefused(t *testing.T) {
	x := newPair(t, 1, 2, 3, 4)
	for range 200 {
		x.put(api.OK, 3, nil)
	}
	x.put(api.OK, 4, some(65536-41-10))
	for _, c := range []struct {
		want api.Errno
		n    int
		to   []uint32
	}{
		{api.ErrMissing, 0, []uint32{9}},
		{api.ErrMissing, 0, []uint32{1, 9}},
		{api.ErrMissing, 0, []uint32{9, 1}},
		{api.ErrMissing, 0, []uint32{9, 9}},
		{api.ErrMissing, 0, []uint32{1, 9, 1}},
		{api.ErrMissing, 0, []uint32{9, 3}},
		{api.ErrTwice, 0, []uint32{1, 1}},
		{api.ErrTwice, 0, []uint32{1, 2, 1}},
		{api.ErrTwice, 0, []uint32{1, 2, 2, 9}},
		{api.ErrTwice, 0, []uint32{1, 1, 3}},
		{api.ErrQuota, 0, []uint32{3}},
		{api.ErrQuota, 0, []uint32{3, 3}},
		{api.ErrQuota, 0, []uint32{1, 3, 1}},
		{api.ErrQuota, 0, []uint32{1, 3, 9}},
		{api.ErrQuota, 0, []uint32{2, 1, 3}},
		{api.ErrTwice, 10, []uint32{4, 4}}, // there is room for one alone
		{api.ErrQuota, 11, []uint32{1, 4}},
		{api.ErrQuota, 11, []uint32{4, 9}},
		{api.ErrMissing, 11, []uint32{9, 4}},
		{api.ErrQuota, 16384, []uint32{4, 4}},
	} {
		x.send(c.want, 1, some(c.n), c.to...)
		x.send(api.ErrMissing, 9, some(c.n), c.to...)
	}
	if x.p.Waiting(1) != 0 || x.p.Waiting(2) != 0 || x.p.Waiting(3) != 200 || x.p.Waiting(4) != 1 {
		t.Error("something came of what was refused")
	}
	x.send(api.OK, 3, some(10), 4, 1, 2) // whose box is full may send
	x.send(api.ErrQuota, 1, nil, 4)
	x.empties()
}

// P18.3: as many frames as may wait.
func TestSendMany(t *testing.T) {
	x := newPair(t, 1, 2)
	for i := range 200 {
		x.send(api.OK, 2, some(i), 1)
	}
	x.send(api.ErrQuota, 2, nil, 1)
	x.send(api.ErrQuota, 2, nil, 2, 1)
	x.put(api.ErrQuota, 1, nil)
	x.take(api.OK, 1, 100)
	x.send(api.OK, 2, some(7), 2, 1)
	x.send(api.ErrQuota, 2, nil, 1)
	x.empties()
}

// P18.3: as many bytes as may wait: those of the envelopes, to the last one.
func TestSendBytes(t *testing.T) {
	x := newPair(t, 1, 2)
	for range 3 {
		x.send(api.OK, 1, some(16384), 1, 2)
	}
	room := 65536 - 3*(16384+41) - 41
	x.send(api.ErrQuota, 1, some(16384), 1)
	x.send(api.ErrQuota, 1, some(room+1), 2)
	x.send(api.OK, 1, some(room), 2)
	x.send(api.ErrQuota, 1, nil, 2)
	x.put(api.ErrQuota, 2, some(1))
	x.put(api.OK, 2, nil)
	x.send(api.OK, 1, some(room-1), 1)
	x.send(api.ErrQuota, 1, nil, 1)
	x.put(api.ErrQuota, 1, some(2))
	x.put(api.OK, 1, some(1))
	x.put(api.ErrQuota, 1, some(1))
	x.take(api.OK, 1, 0)
	x.send(api.OK, 1, some(16384), 1)
	x.send(api.ErrQuota, 1, nil, 1)
	x.empties()
}

// P18.4: frames come out of any place, and those behind move up.
func TestTake(t *testing.T) {
	x := newPair(t, 1, 2)
	for i := range 9 {
		x.put(api.OK, 1, some(i))
		x.put(api.OK, 2, some(20+i))
	}
	for _, at := range []int{-1, 9, 10, 256, 1 << 32, math.MinInt, math.MaxInt} {
		x.take(api.ErrMissing, 1, at)
		x.take(api.ErrMissing, 3, at)
	}
	x.take(api.ErrMissing, 3, 0)
	for _, at := range []int{8, 0, 3, 3, 4, 1, 0, 1, 0} {
		x.take(api.OK, 1, at)
		x.take(api.ErrMissing, 1, -1)
		x.take(api.ErrMissing, 1, x.p.Waiting(1))
	}
	x.take(api.ErrMissing, 1, 0)
	x.empties()
}

// P18.4: any bytes wait as they are, as many as may.
func TestPut(t *testing.T) {
	x := newPair(t, 1, 2, 3)
	for _, n := range []int{0, 1, 41, 65536, 65537, 1<<24 + 1} {
		x.put(api.ErrMissing, 9, make([]byte, n))
	}
	x.put(api.OK, 1, some(65536))
	x.put(api.ErrQuota, 1, some(1))
	x.put(api.OK, 1, nil)
	x.take(api.OK, 1, 0)
	x.put(api.ErrQuota, 1, some(65537))
	x.put(api.ErrQuota, 1, make([]byte, 1<<24))
	x.put(api.OK, 1, some(30000))
	x.put(api.ErrQuota, 1, some(35537))
	x.put(api.OK, 1, some(35536))
	for i := range 200 {
		x.put(api.OK, 2, some(i%3))
	}
	x.put(api.ErrQuota, 2, nil)
	x.put(api.ErrQuota, 2, some(1))
	x.take(api.OK, 2, 199)
	x.put(api.OK, 2, envelope(1, some(3)))
	x.put(api.ErrQuota, 2, []byte{})
	for _, b := range [][]byte{nil, {}, {0}, {7}, envelope(1, nil), bytes.Repeat([]byte{255}, 300)} {
		x.put(api.OK, 3, b)
	}
	x.send(api.OK, 2, some(9), 3)
	x.empties()
}

// P2: what one takes out of their box shares nothing with what another does.
func TestBoxesApart(t *testing.T) {
	x := newPair(t, 1, 2, 3)
	x.send(api.OK, 1, some(50), 1, 2, 3)
	for name := range uint32(3) {
		b, e := x.p.Take(name+1, 0)
		if e != api.OK || !bytes.Equal(b, envelope(1, some(50))) {
			t.Errorf("for %d: %v", name+1, e)
		}
		scrub(b, 0xee)
	}
}

// P1: very many to whom a frame is to go, or for once.
func TestVeryMany(t *testing.T) {
	x := newPair(t, 1, 2)
	to := make([]uint32, 1<<20)
	for i := range to {
		to[i] = uint32(i%2) + 1
	}
	if e := x.p.Send(1, some(9), to...); e != api.ErrTwice {
		t.Error(e)
	}
	if e := x.p.Publish(1, bundle(1), slices.Repeat(bundles(2, 1), 1<<17)...); e != api.ErrFull {
		t.Error(e)
	}
	x.counts("very many")
	x.empties()
}

// one: any of a list.
func one[T interface{ ~uint32 | ~int }](rng *rand.Rand, list ...T) T {
	return list[rng.Intn(len(list))]
}

// P18.1 to P18.4, P1 and P2: long scripts of all calls, held against the words behind each of them.
func TestScripts(t *testing.T) {
	for seed := range int64(30) {
		rng := rand.New(rand.NewSource(seed))
		x := newPair(t)
		names := append(edges(), nobody[0])
		size := one(rng, 20, 400, 20000)
		for range 1500 {
			name := one(rng, names...)
			switch n := rng.Intn(size); rng.Intn(12) {
			case 0:
				x.join(one(rng, edges()...), -1)
			case 1:
				offers := bundles(rng.Uint32(), rng.Intn(12)+1)
				if rng.Intn(9) == 0 {
					list := others()
					offers[rng.Intn(len(offers))] = list[rng.Intn(len(list))]
				}
				x.publish(-1, name, offers[0], offers[1:]...)
			case 2, 3:
				x.fetch(-1, name)
			case 4, 5, 6, 7:
				to := make([]uint32, rng.Intn(4))
				for i := range to {
					to[i] = one(rng, names...)
				}
				x.send(-1, name, some(n), to...)
			case 8, 9:
				x.put(-1, name, some(n))
			default:
				x.take(-1, name, rng.Intn(one(rng, 4, 30, 300))-1)
			}
		}
		x.empties()
	}
}
