package post

import (
	"bytes"
	"encoding/binary"
	"math/rand"
	"slices"
	"testing"

	"intaglio/api"
)

// slowPerson is what a server by the words of the promises keeps for somebody.
type slowPerson struct {
	name  uint32
	has   bool // an offer
	offer api.Frame
	once  []api.Frame
	box   [][]byte
}

// slow: a server by the words of the promises.
type slow struct {
	people []*slowPerson
}

func (s *slow) find(name uint32) *slowPerson {
	for _, p := range s.people {
		if p.name == name {
			return p
		}
	}
	return nil
}

func (s *slow) join(name uint32) api.Errno {
	if s.find(name) != nil {
		return api.ErrTwice
	}
	if len(s.people) == 64 {
		return api.ErrFull
	}
	s.people = append(s.people, &slowPerson{name: name})
	return api.OK
}

func (s *slow) names() []uint32 {
	var list []uint32
	for _, p := range s.people {
		list = append(list, p.name)
	}
	slices.Sort(list)
	return list
}

// good: is it a Bundle that can be written?
func good(f api.Frame) bool {
	return f.Kind == 1 && len(f.Keys) == 4 && len(f.Nums) == 2 && len(f.Sigs) == 1 && len(f.Data) == 0
}

func (s *slow) publish(name uint32, offer api.Frame, once []api.Frame) api.Errno {
	p := s.find(name)
	if p == nil {
		return api.ErrMissing
	}
	for _, f := range append([]api.Frame{offer}, once...) {
		if !good(f) {
			return api.ErrShape
		}
	}
	if len(p.once)+len(once) > 100 {
		return api.ErrFull
	}
	p.has, p.offer = true, copied(offer)
	for _, f := range once {
		p.once = append(p.once, copied(f))
	}
	return api.OK
}

func (s *slow) fetch(name uint32) (api.Frame, api.Errno) {
	p := s.find(name)
	if p == nil || !p.has {
		return api.Frame{}, api.ErrMissing
	}
	if len(p.once) == 0 {
		return p.offer, api.OK
	}
	f := p.once[0]
	p.once = p.once[1:]
	return f, api.OK
}

// envelope: the bytes of a frame with whom it is from, by the words of the frames' chapter.
func envelope(from uint32, b []byte) []byte {
	w := append([]byte{7}, make([]byte, 32)...)
	w = binary.BigEndian.AppendUint32(w, from)
	w = binary.BigEndian.AppendUint32(w, uint32(len(b)))
	return append(w, b...)
}

// quota: can so many bytes not wait for them?
func (p *slowPerson) quota(size int) bool {
	return len(p.box) == 200 || len(bytes.Join(p.box, nil))+size > 65536
}

func (s *slow) send(from uint32, b []byte, to []uint32) api.Errno {
	if s.find(from) == nil {
		return api.ErrMissing
	}
	if len(b) > 16384 {
		return api.ErrLong
	}
	ahead := map[uint32]bool{}
	for _, name := range to {
		p := s.find(name)
		switch {
		case p == nil:
			return api.ErrMissing
		case ahead[name]:
			return api.ErrTwice
		case p.quota(41 + len(b)):
			return api.ErrQuota
		}
		ahead[name] = true
	}
	for _, name := range to {
		p := s.find(name)
		p.box = append(p.box, envelope(from, b))
	}
	return api.OK
}

func (s *slow) take(name uint32, at int) ([]byte, api.Errno) {
	p := s.find(name)
	if p == nil || at < 0 || at > len(p.box)-1 {
		return nil, api.ErrMissing
	}
	f := p.box[at]
	p.box = append(slices.Clone(p.box[:at]), p.box[at+1:]...)
	return f, api.OK
}

func (s *slow) put(name uint32, b []byte) api.Errno {
	p := s.find(name)
	if p == nil {
		return api.ErrMissing
	}
	if p.quota(len(b)) {
		return api.ErrQuota
	}
	p.box = append(p.box, bytes.Clone(b))
	return api.OK
}

// some: n bytes that differ from one another.
func some(n int) []byte {
	b := make([]byte, n)
	rand.New(rand.NewSource(int64(n))).Read(b)
	return b
}

// bundle: a frame of the shape of an offer, all of whose bytes hang on n.
func bundle(n uint32) api.Frame {
	b := make([]byte, 4*32+64)
	rand.New(rand.NewSource(int64(n))).Read(b)
	f := api.Frame{Kind: 1, Nums: []uint32{^n, n}, Sigs: []api.Sig{api.Sig(b[128:])}}
	for i := range 4 {
		f.Keys = append(f.Keys, api.Key(b[32*i:]))
	}
	return f
}

// bundles: n of them, from a number on.
func bundles(from uint32, n int) []api.Frame {
	list := []api.Frame{}
	for i := range n {
		list = append(list, bundle(from+uint32(i)))
	}
	return list
}

// copied: a frame with lists of its own, each with spare room.
func copied(f api.Frame) api.Frame {
	f.Keys, f.Nums, f.Sigs, f.Data = roomy(f.Keys), roomy(f.Nums), roomy(f.Sigs), roomy(f.Data)
	return f
}

// roomy: a copy of a list with spare room.
func roomy[T any](list []T) []T {
	return append(make([]T, 0, len(list)+3), list...)
}

// alike: are two frames?
func alike(f, g api.Frame) bool {
	return f.Kind == g.Kind && slices.Equal(f.Keys, g.Keys) && slices.Equal(f.Nums, g.Nums) && slices.Equal(f.Sigs, g.Sigs) && bytes.Equal(f.Data, g.Data)
}

// scrub: writes over a list and its spare room.
func scrub[T any](list []T, with T) {
	list = list[:cap(list)]
	for i := range list {
		list[i] = with
	}
}

// scrubFrame: writes over all of a frame's lists.
func scrubFrame(f api.Frame) {
	scrub(f.Keys, api.Key{0xee})
	scrub(f.Nums, 0xeeeeeeee)
	scrub(f.Sigs, api.Sig{0xee})
	scrub(f.Data, 0xee)
}

// clean: is a list's spare room as it was made?
func clean[T comparable](list []T) bool {
	var zero T
	for _, x := range list[len(list):cap(list)] {
		if x != zero {
			return false
		}
	}
	return true
}

// pair: a server, and one by the words, of which the same is asked. What is handed in is held against what it was, and written over behind the call, as is all that is answered.
type pair struct {
	t *testing.T
	p *Post
	s *slow
}

func newPair(t *testing.T, names ...uint32) pair {
	t.Helper()
	x := pair{t, New(), &slow{}}
	for _, name := range names {
		x.join(name, api.OK)
	}
	return x
}

// told: is the answer the one of the model, and the one that is wanted? -1 wants no certain one.
func (x pair) told(what string, e, model, want api.Errno) {
	x.t.Helper()
	if e != model || want >= 0 && e != want {
		x.t.Fatalf("%s: %v; by the words %v, wanted %v", what, e, model, want)
	}
}

// nobody: names that nobody has here.
var nobody = []uint32{77777, 1 << 30, 1<<32 - 7}

// counts: what can be told of all of them without taking anything out.
func (x pair) counts(what string) {
	x.t.Helper()
	names := x.p.People()
	if !slices.Equal(names, x.s.names()) {
		x.t.Fatalf("%s: People: %d, not %d", what, names, x.s.names())
	}
	scrub(names, 0xeeeeeeee)
	for _, p := range x.s.people {
		if x.p.Left(p.name) != len(p.once) || x.p.Waiting(p.name) != len(p.box) {
			x.t.Fatalf("%s: of %d %d are left and %d wait, not %d and %d", what, p.name, x.p.Left(p.name), x.p.Waiting(p.name), len(p.once), len(p.box))
		}
	}
	for _, name := range nobody {
		if x.s.find(name) == nil && (x.p.Left(name) != 0 || x.p.Waiting(name) != 0) {
			x.t.Fatalf("%s: something is there for nobody", what)
		}
	}
}

func (x pair) join(name uint32, want api.Errno) {
	x.t.Helper()
	x.told("Join", x.p.Join(name), x.s.join(name), want)
	x.counts("Join")
}

func (x pair) publish(want api.Errno, name uint32, offer api.Frame, once ...api.Frame) {
	x.t.Helper()
	own, list := copied(offer), make([]api.Frame, 0, len(once)+2)
	for _, f := range once {
		list = append(list, copied(f))
	}
	x.told("Publish", x.p.Publish(name, own, list...), x.s.publish(name, offer, once), want)
	for i, f := range append([]api.Frame{own}, list...) {
		if !alike(f, append([]api.Frame{offer}, once...)[i]) || !clean(f.Keys) || !clean(f.Nums) || !clean(f.Sigs) || !clean(f.Data) {
			x.t.Fatal("Publish changed a frame that was handed in")
		}
		scrubFrame(f)
	}
	for _, f := range list[len(list):cap(list)] {
		if !alike(f, api.Frame{}) {
			x.t.Fatal("Publish wrote into spare room")
		}
	}
	scrub(list, api.Frame{})
	x.counts("Publish")
}

func (x pair) fetch(want api.Errno, name uint32) {
	x.t.Helper()
	f, e := x.p.Fetch(name)
	g, model := x.s.fetch(name)
	x.told("Fetch", e, model, want)
	if !alike(f, g) {
		x.t.Fatalf("Fetch: %+v, not %+v", f, g)
	}
	scrubFrame(f)
	x.counts("Fetch")
}

func (x pair) send(want api.Errno, from uint32, b []byte, to ...uint32) {
	x.t.Helper()
	data, list := roomy(b), roomy(to)
	x.told("Send", x.p.Send(from, data, list...), x.s.send(from, b, to), want)
	if !bytes.Equal(data, b) || !slices.Equal(list, to) || !clean(data) || !clean(list) {
		x.t.Fatal("Send changed what was handed in")
	}
	scrub(data, 0xee)
	scrub(list, 0xeeeeeeee)
	x.counts("Send")
}

func (x pair) take(want api.Errno, name uint32, at int) {
	x.t.Helper()
	b, e := x.p.Take(name, at)
	c, model := x.s.take(name, at)
	x.told("Take", e, model, want)
	if !bytes.Equal(b, c) {
		x.t.Fatalf("Take: %d bytes that aren't the %d wanted", len(b), len(c))
	}
	scrub(b, 0xee)
	x.counts("Take")
}

func (x pair) put(want api.Errno, name uint32, b []byte) {
	x.t.Helper()
	data := roomy(b)
	x.told("Put", x.p.Put(name, data), x.s.put(name, b), want)
	if !bytes.Equal(data, b) || !clean(data) {
		x.t.Fatal("Put changed what was handed in")
	}
	scrub(data, 0xee)
	x.counts("Put")
}

// empties: takes out all that there is, and holds it against the words.
func (x pair) empties() {
	x.t.Helper()
	for _, name := range x.s.names() {
		for len(x.s.find(name).box) > 0 {
			x.take(api.OK, name, 0)
		}
		for len(x.s.find(name).once) > 0 {
			x.fetch(api.OK, name)
		}
		x.fetch(-1, name)
		x.fetch(-1, name)
		x.take(api.ErrMissing, name, 0)
	}
}
