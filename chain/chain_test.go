package chain

import (
	"bytes"
	"math"
	"math/rand"
	"slices"
	"testing"

	"intaglio/api"
	"intaglio/frame"
)

// seed: with which all messages of these tests are signed.
func seed() api.Key { return chance(1, 1)[0] }

// at: a sender's chain at a number.
func at(index uint32) Sender {
	k := chance(2, 2)
	return Sender{Place: Place{Group: k[0], Epoch: 0x01020304, Index: index, Key: k[1]}, Seed: seed()}
}

// following: another's chain at a number, with so many keys held, of the numbers from first on.
func following(index, first uint32, held int) Follower {
	w := Follower{Place: at(index).Place, Public: slowPublic(seed())}
	for i, key := range chance(3, held) {
		w.Held = append(w.Held, Held{first + uint32(i), key})
	}
	return w
}

// The limits are those of the chapter.
func TestLimits(t *testing.T) {
	if MaxSkip != 1000 || MaxHeld != 1000 || MaxIndex != 16777216 {
		t.Errorf("%d, %d, %d", MaxSkip, MaxHeld, MaxIndex)
	}
}

// P16.1: the next key of a place, and its end.
func TestNext(t *testing.T) {
	for _, index := range []uint32{0, 1, 63, 999, 1000, 16777214, 16777215} {
		p := at(index).Place
		want := p
		key, _ := slowNext(t, &want)
		if behind, k, e := p.next(); e != api.OK || k != key || behind != want {
			t.Errorf("at %d: %x, %v, %+v", index, k, e, behind)
		}
	}
	for _, index := range []uint32{16777216, 16777217, 1 << 25, math.MaxUint32} {
		if behind, k, e := at(index).next(); e != api.ErrFull || k != (api.Key{}) || behind != (Place{}) {
			t.Errorf("at %d: %x, %v, %+v", index, k, e, behind)
		}
	}
}

// P16.2: Start, and what a chain is shared as.
func TestStartAndShare(t *testing.T) {
	k := append(chance(4, 6), api.Key{}, api.Key{31: 0xff})
	for i, group := range k {
		key, seed, epoch := k[(i+1)%8], k[(i+3)%8], uint32(i)*0x24924924
		s := Start(group, epoch, key, seed)
		if s != (Sender{Place: Place{Group: group, Epoch: epoch, Key: key}, Seed: seed}) {
			t.Errorf("Start: %+v", s)
		}
		for _, index := range []uint32{0, 1, 16777216, math.MaxUint32} {
			s.Index = index
			want := api.Frame{Kind: 4, Keys: []api.Key{group, key, slowPublic(seed)}, Nums: []uint32{epoch, index}}
			f := s.Share()
			if !alike(f, want) {
				t.Errorf("Share: %+v, not %+v", f, want)
			}
			w, e := Follow(f)
			if e != api.OK || !same(w, Follower{Place: s.Place, Public: slowPublic(seed)}) {
				t.Errorf("Follow: %+v, %v", w, e)
			}
		}
	}
}

// P16.2: any keys and numbers of a chain are followed, and no data are as good as nil.
func TestFollowOfAnyChain(t *testing.T) {
	k := append(chance(5, 3), api.Key{}, api.Key{2})
	for i := range 50 {
		f := api.Frame{Kind: 4, Keys: []api.Key{k[i%5], k[i/5%5], k[(i+i/5)%5]}, Nums: []uint32{math.MaxUint32 - uint32(i), uint32(i) << 26}}
		if i%2 == 0 {
			f.Data, f.Sigs = []byte{}, []api.Sig{}
		}
		want := Follower{Place: Place{Group: f.Keys[0], Epoch: f.Nums[0], Index: f.Nums[1], Key: f.Keys[1]}, Public: f.Keys[2]}
		if w, e := Follow(f); e != api.OK || !same(w, want) {
			t.Errorf("%d: %+v, %v", i, w, e)
		}
	}
}

// P16.2: what is no chain.
func TestFollowOfOthers(t *testing.T) {
	for i := range 5 * 4 * 2 * 2 * 9 {
		keys, nums, sigs, data, kind := i%5, i/5%4, i/20%2, i/40%2, i/80
		f := api.Frame{Kind: kind, Keys: chance(6, keys), Nums: make([]uint32, nums), Sigs: make([]api.Sig, sigs), Data: make([]byte, data)}
		want := api.ErrShape
		if keys == 3 && nums == 2 && sigs == 0 && data == 0 && kind == 4 {
			want = api.OK
		}
		if w, e := Follow(f); e != want || e != api.OK && !same(w, Follower{}) {
			t.Errorf("%d, with %d, %d, %d, %d: %+v, %v", kind, keys, nums, sigs, data, w, e)
		}
	}
	for _, kind := range []int{math.MinInt, -4, 0, 2, 3, 5, 8, 260, 1<<32 + 4, math.MaxInt} {
		f := at(3).Share()
		f.Kind = kind
		if w, e := Follow(f); e != api.ErrShape || !same(w, Follower{}) {
			t.Errorf("kind %d: %+v, %v", kind, w, e)
		}
	}
	f := at(3).Share()
	f.Data = make([]byte, frame.MaxData+1)
	if w, e := Follow(f); e != api.ErrShape || !same(w, Follower{}) {
		t.Errorf("with data: %+v, %v", w, e)
	}
}

// P16.3: messages of all lengths, one behind the other, held against the library.
func TestSeal(t *testing.T) {
	s, other := Start(api.Key{1}, 2, api.Key{3}, api.Key{4}), at(70000)
	for _, n := range []int{0, 1, 2, 63, 64, 65, 1000, 16367, 16368} {
		s, _ = seals(t, "from the beginning", s, some(n))
		other, _ = seals(t, "later", other, some(n))
	}
	if s.Index != 9 || other.Index != 70009 {
		t.Errorf("at %d and %d", s.Index, other.Index)
	}
	_, f := seals(t, "the longest", s, some(16368))
	if _, e := frame.Encode(f); e != api.OK || len(f.Data) != frame.MaxData {
		t.Errorf("the longest: %v", e)
	}
	seals(t, "all zero", Sender{}, nil)
	seals(t, "the greatest epoch", Start(api.Key{1}, math.MaxUint32, api.Key{3}, api.Key{}), some(3))
}

// P16.3: the errors of Seal, in their order.
func TestSealRefused(t *testing.T) {
	for _, n := range []int{16369, 16384, 16385, 1 << 20, 1<<20 + 1} {
		refusesText(t, "too long", at(3), make([]byte, n), api.ErrLong)
		refusesText(t, "too long, and all sent", at(MaxIndex), make([]byte, n), api.ErrLong)
	}
	for _, index := range []uint32{16777216, 16777217, 1 << 25, math.MaxUint32} {
		for _, n := range []int{0, 1, 16368} {
			refusesText(t, "all sent", at(index), make([]byte, n), api.ErrFull)
		}
	}
	last, f := seals(t, "the last", at(16777215), []byte("last"))
	if f.Nums[1] != 16777215 {
		t.Errorf("the last is %d", f.Nums[1])
	}
	refusesText(t, "behind the last", last, nil, api.ErrFull)
}

// P16.4: a message is read, and read once more; who follows from later on doesn't read what was ahead.
func TestExample(t *testing.T) {
	s := Start(api.Key{1}, 2, api.Key{3}, api.Key{4})
	w, _ := Follow(s.Share())
	s, f := seals(t, "first", s, []byte("hello"))
	late, _ := Follow(s.Share())
	w, text, e := w.Open(f)
	if e != api.OK || string(text) != "hello" || w.Index != 1 || len(w.Waiting()) != 0 {
		t.Fatalf("%q, %v", text, e)
	}
	refuses(t, "once more", w, f, api.ErrOld)
	refuses(t, "from later on", late, f, api.ErrOld)
	_, g := seals(t, "second", s, nil)
	for _, x := range []Follower{w, late} {
		behind, text, e := x.Open(g)
		if e != api.OK || len(text) > 0 || behind.Index != 2 {
			t.Errorf("%q, %v", text, e)
		}
		refuses(t, "once more", behind, g, api.ErrOld)
	}
}

// P16.4: what is no message.
func TestOpenOfNoMessage(t *testing.T) {
	w := following(7, 0, 2)
	for i := range 3 * 4 * 3 * 9 {
		keys, nums, sigs, kind := i%3, i/3%4, i/12%3, i/36
		if keys == 1 && nums == 2 && sigs == 1 && kind == 5 {
			continue
		}
		f := api.Frame{Kind: kind, Keys: make([]api.Key, keys), Nums: make([]uint32, nums), Sigs: make([]api.Sig, sigs), Data: make([]byte, 20)}
		refuses(t, "another shape", w, f, api.ErrShape)
		f.Data = nil
		refuses(t, "another shape without data", w, f, api.ErrShape)
	}
	_, key, _ := slowFind(t, w, 7)
	good := sealed(t, w.Place, 7, key, seed(), some(16368))
	if _, text, e := w.Open(good); e != api.OK || len(text) != 16368 {
		t.Errorf("the longest: %d bytes, %v", len(text), e)
	}
	for _, kind := range []int{math.MinInt, -5, 0, 1, 3, 4, 6, 7, 8, 261, 1<<32 + 5, math.MaxInt} {
		f := good
		f.Kind = kind
		refuses(t, "another kind", w, f, api.ErrShape)
	}
	for _, n := range []int{16385, 1 << 17, 1<<20 + 17} {
		refuses(t, "too much data", w, message(w.Place, 7, seed(), make([]byte, n)), api.ErrShape)
		refuses(t, "too much data of another group", w, message(Place{}, 7, seed(), make([]byte, n)), api.ErrShape)
	}
}

// P16.4: another group or epoch is told ahead of the signature; no bit of either may be another.
func TestOpenOfAnotherEpoch(t *testing.T) {
	w := following(7, 0, 2)
	for i := range 256 + 32 {
		p := w.Place
		if i < 256 {
			p.Group[i/8] ^= 1 << (i % 8)
		} else {
			p.Epoch ^= 1 << (i - 256)
		}
		_, key, _ := slowFind(t, Follower{Place: p}, 7)
		good := sealed(t, p, 7, key, seed(), []byte("text"))
		refuses(t, "of another epoch", w, good, api.ErrEpoch)
		other := w
		other.Place = p
		if _, text, e := other.Open(good); e != api.OK || string(text) != "text" {
			t.Fatalf("bit %d: %q, %v", i, text, e)
		}
		if i%16 == 0 {
			good.Sigs[0] = api.Sig{}
			refuses(t, "of another epoch, not signed", w, good, api.ErrEpoch)
			good.Nums[1] = 5000
			refuses(t, "of another epoch, too far", w, good, api.ErrEpoch)
		}
	}
}

// P16.4: layer 7's errors of the signature stand ahead of all that hangs on the number; no bit of what is signed may be another.
func TestOpenOfWrongSignatures(t *testing.T) {
	w := following(7, 0, 2)
	_, key, _ := slowFind(t, w, 9)
	good := sealed(t, w.Place, 9, key, seed(), []byte("text"))
	for i := range 8 * (20 + 64) {
		f := copied(good)
		if i < 8*20 {
			f.Data[i/8] ^= 1 << (i % 8)
		} else {
			f.Sigs[0][i/8-20] ^= 1 << (i % 8)
		}
		refuses(t, "another bit", w, f, api.ErrSign)
	}
	for i := range 32 {
		f := copied(good)
		f.Nums[1] ^= 1 << i
		refuses(t, "another number", w, f, api.ErrSign)
	}
	for _, n := range []int{0, 15, 16, 19} {
		f := copied(good)
		f.Data = f.Data[:n]
		refuses(t, "less data", w, f, api.ErrSign)
	}
	for _, number := range []uint32{0, 6, 7, 1008, MaxIndex, math.MaxUint32} {
		for public, want := range map[api.Key]api.Errno{{2}: api.ErrPoint, {1}: api.ErrSign, {}: api.ErrSign, slowPublic(api.Key{9}): api.ErrSign} {
			other := w
			other.Public = public
			refuses(t, "another public key", other, message(w.Place, number, seed(), some(20)), want)
		}
	}
	other := w
	other.Public = slowPublic(api.Key{9})
	if _, text, e := other.Open(sealed(t, w.Place, 9, key, api.Key{9}, []byte("text"))); e != api.OK || string(text) != "text" {
		t.Errorf("another seed: %q, %v", text, e)
	}
}

// P16.4: messages in their order, ahead of it, and too far.
func TestAhead(t *testing.T) {
	w := following(100, 5, 3)
	for _, number := range []uint32{100, 101, 102, 600, 1099, 1100} {
		behind := opens(t, "ahead", w, number)
		if behind.Index != number+1 || len(behind.Held) != int(min(3+number-100, 1000)) {
			t.Errorf("behind %d: at %d, %d held", number, behind.Index, len(behind.Held))
		}
	}
	for _, number := range []uint32{1101, 1102, 5000, 16777215, 16777216, 1 << 31, math.MaxUint32} {
		refusesNumber(t, "too far", w, number, api.ErrSkip)
	}
	opens(t, "the first thousand passed over", following(0, 0, 0), 1000)
	refusesNumber(t, "one more", following(0, 0, 0), 1001, api.ErrSkip)
}

// P16.4: keys that are held: of just that number, and only below Index; nothing else moves, and what isn't opened stays held.
func TestHeld(t *testing.T) {
	k := chance(7, 6)
	w := following(50, 0, 0)
	w.Held = []Held{{4, k[0]}, {3, k[1]}, {49, k[2]}, {3, k[3]}, {50, k[4]}, {51, k[5]}, {math.MaxUint32, k[0]}}
	for i, number := range []uint32{4, 3, 49} {
		behind := opens(t, "held", w, number)
		want := w
		want.Held = slices.Concat(w.Held[:i], w.Held[i+1:])
		if !same(behind, want) {
			t.Errorf("held %d: %+v", number, behind)
		}
		if number != 3 { // one more is held for it
			refusesNumber(t, "once more", behind, number, api.ErrOld)
		}
	}
	twice := opens(t, "the second of two", opens(t, "the first of two", w, 3), 3)
	refusesNumber(t, "once more", twice, 3, api.ErrOld)
	for _, number := range []uint32{0, 1, 2, 5, 48} {
		refusesNumber(t, "not held", w, number, api.ErrOld)
	}
	behind := opens(t, "held, but not below Index", w, 50)
	if !slices.Equal(behind.Held, w.Held) {
		t.Errorf("not below Index: %+v", behind.Held)
	}
	opens(t, "now it is below Index", behind, 50)
	refusesNumber(t, "held, but too far", w, math.MaxUint32, api.ErrSkip)
	end := w
	end.Index = math.MaxUint32
	for _, number := range []uint32{3, 4, 49, 50, 51} {
		opens(t, "held, and beyond the end", end, number)
	}
	refusesNumber(t, "at the end of all numbers", end, math.MaxUint32, api.ErrFull)
}

// P16.4: no more than MaxHeld are held, the eldest go; where the key is held none goes but that.
func TestMaxHeld(t *testing.T) {
	for _, held := range []int{0, 1, 500, 998, 999, 1000, 1001, 1100, 2500} {
		w := following(3000, 0, held)
		for _, number := range []uint32{3000, 3001, 3002, 3500, 4000} {
			behind := opens(t, "ahead", w, number)
			if len(behind.Held) != min(held+int(number)-3000, 1000) {
				t.Errorf("%d held, then %d", held, len(behind.Held))
			}
			if n := len(behind.Held); number > 3000 && behind.Held[n-1].Index != number-1 {
				t.Errorf("%d held, then the youngest is %d", held, behind.Held[n-1].Index)
			}
		}
		if held > 0 {
			behind := opens(t, "held", w, uint32(held-1))
			if len(behind.Held) != held-1 {
				t.Errorf("%d held, then %d", held, len(behind.Held))
			}
		}
	}
}

// P16.1 and P16.4: the end of a chain.
func TestEndOfChain(t *testing.T) {
	w := following(16777214, 0, 1)
	refusesNumber(t, "the last but one passed over, and the last", w, 16777216, api.ErrFull)
	refusesNumber(t, "far beyond the end", w, 16777214+1000, api.ErrFull)
	refusesNumber(t, "too far beyond the end", w, 16777214+1001, api.ErrSkip)
	if behind := opens(t, "the last", w, 16777215); behind.Index != 16777216 || len(behind.Held) != 2 {
		t.Errorf("behind the last: %+v", behind)
	}
	w = opens(t, "the last", opens(t, "the last but one", w, 16777214), 16777215)
	refusesNumber(t, "behind the last", w, 16777216, api.ErrFull)
	refusesNumber(t, "the last once more", w, 16777215, api.ErrOld)
	opens(t, "one that is held", w, 0)
	for _, index := range []uint32{16777217, 1 << 31, math.MaxUint32 - 1000, math.MaxUint32 - 999, math.MaxUint32} {
		w := following(index, 0, 1)
		refusesNumber(t, "beyond the end", w, index, api.ErrFull)
		refusesNumber(t, "beyond the end, before", w, index-1, api.ErrOld)
		want := api.ErrFull
		if math.MaxUint32-index > 1000 {
			want = api.ErrSkip
		}
		refusesNumber(t, "beyond the end, ahead", w, math.MaxUint32, want)
	}
}

// P16.4: what is signed but not sealed with that key, or too short, has layer 10's errors, and moves nothing.
func TestSignedButNotSealed(t *testing.T) {
	w := following(50, 7, 5)
	for _, number := range []uint32{7, 9, 11, 50, 51, 1050} {
		_, key, e := slowFind(t, w, number)
		if e != api.OK {
			t.Fatal(e)
		}
		for n := range 16 {
			refuses(t, "too short", w, message(w.Place, number, seed(), some(n)), api.ErrShort)
		}
		refuses(t, "any data", w, message(w.Place, number, seed(), some(16)), api.ErrTag)
		other := sealed(t, w.Place, number, api.Key{1}, seed(), []byte("text"))
		refuses(t, "sealed with another key", w, other, api.ErrTag)
		moved := sealed(t, w.Place, number+1, key, seed(), []byte("text"))
		refuses(t, "sealed for another number", w, message(w.Place, number, seed(), moved.Data), api.ErrTag)
		p := w.Place
		p.Epoch++
		moved = sealed(t, p, number, key, seed(), []byte("text"))
		refuses(t, "sealed for another epoch", w, message(w.Place, number, seed(), moved.Data), api.ErrTag)
		box := slowBox(t, key)
		box.Nonce[11] ^= 1
		data, _ := box.Seal([]byte("text"), slowFront(w.Group, w.Epoch, number))
		refuses(t, "sealed with another nonce", w, message(w.Place, number, seed(), data), api.ErrTag)
		opens(t, "the right one", w, number)
	}
}

// P16.4: Waiting tells the numbers in the order in which their keys are held.
func TestWaiting(t *testing.T) {
	if n := (Follower{}).Waiting(); len(n) != 0 {
		t.Errorf("of nothing: %d", n)
	}
	w := following(0, 0, 0)
	for _, step := range []struct {
		number uint32
		want   []uint32
	}{{3, []uint32{0, 1, 2}}, {1, []uint32{0, 2}}, {4, []uint32{0, 2}}, {7, []uint32{0, 2, 5, 6}}, {0, []uint32{2, 5, 6}}, {6, []uint32{2, 5}}} {
		w = opens(t, "waiting", w, step.number)
		if n := w.Waiting(); !slices.Equal(n, step.want) {
			t.Errorf("behind %d: %d", step.number, n)
		}
	}
	w.Held = []Held{{9, api.Key{}}, {3, api.Key{1}}, {9, api.Key{2}}, {math.MaxUint32, api.Key{}}}
	if n := w.Waiting(); !slices.Equal(n, []uint32{9, 3, 9, math.MaxUint32}) {
		t.Errorf("by hand: %d", n)
	}
}

// P16.4, P1 and P2: any numbers to any chains, held against the model.
func TestAnyNumbers(t *testing.T) {
	r := rand.New(rand.NewSource(16))
	at := []uint32{0, 1, 2, 60, 5000, 16776000, 16777214, 16777215, 16777216, 1 << 30, math.MaxUint32 - 3, math.MaxUint32}
	keys := append(chance(8, 6), api.Key{})
	count := map[api.Errno]int{}
	for range 1500 {
		w := Follower{Place: Place{Group: keys[r.Intn(7)], Epoch: r.Uint32(), Index: at[r.Intn(len(at))], Key: keys[r.Intn(7)]}, Public: slowPublic(seed())}
		for range []int{0, 1, 2, 5, 100, 1000, 1003}[r.Intn(7)] {
			w.Held = append(w.Held, Held{w.Index - uint32(r.Intn(120)) + 20, keys[r.Intn(7)]})
		}
		number := w.Index + uint32(r.Intn(90)) - 80 // it may go round
		if r.Intn(3) == 0 {
			number = w.Index + uint32(r.Intn(1010))
		}
		_, _, e := slowFind(t, w, number)
		count[e]++
		if e == api.OK {
			opens(t, "any", w, number)
		} else {
			refuses(t, "any", w, message(w.Place, number, seed(), some(r.Intn(40))), e)
		}
	}
	for _, e := range []api.Errno{api.OK, api.ErrOld, api.ErrSkip, api.ErrFull} {
		if count[e] < 10 {
			t.Errorf("too few of a kind: %v", count)
		}
	}
}

// P16.3 and P16.4: some follow one chain, and its messages come late, twice or never: each is read once, with its text.
func TestGroup(t *testing.T) {
	r := rand.New(rand.NewSource(17))
	s := Start(api.Key{1}, 2, api.Key{3}, seed())
	list := make([]Follower, 3)
	for i := range list {
		list[i], _ = Follow(s.Share())
	}
	var sent []api.Frame
	var texts [][]byte
	read := make([]map[int]bool, len(list))
	for i := range read {
		read[i] = map[int]bool{}
	}
	count := 0
	for round := range 900 {
		if round%4 == 0 {
			var f api.Frame
			texts = append(texts, some(r.Intn(100)))
			s, f = seals(t, "group", s, texts[len(texts)-1])
			sent = append(sent, f)
			continue
		}
		i, n := r.Intn(len(list)), max(0, len(sent)-1-r.Intn(12))
		behind, text, e := list[i].Open(sent[n])
		if read[i][n] {
			if e != api.ErrOld || !same(behind, list[i]) {
				t.Fatalf("round %d: read twice: %v", round, e)
			}
			continue
		}
		if e != api.OK || !bytes.Equal(text, texts[n]) {
			t.Fatalf("round %d: %x, %v", round, text, e)
		}
		list[i], read[i][n] = behind, true
		count++
		for _, number := range behind.Waiting() {
			if read[i][int(number)] {
				t.Fatalf("round %d: the key of %d is still held", round, number)
			}
		}
	}
	if count < 200 {
		t.Errorf("only %d were read", count)
	}
}

// P2: a chain stays what it is: what was read of it is read of it again, whatever came of it.
func TestChainsAreValues(t *testing.T) {
	w := following(3000, 0, 900)
	whole := slices.Grow(w.Held, 2000)[:2900]
	for i := 900; i < 2900; i++ {
		whole[i] = Held{Index: 77}
	}
	w.Held = whole[:900:2900]
	want := w
	want.Held = slices.Clone(w.Held)
	for range 2 {
		for _, number := range []uint32{3000, 3001, 3050, 3100, 3101, 4000, 450, 0, 899} {
			behind := opens(t, "one chain", w, number)
			kept := slices.Clone(behind.Held)
			opens(t, "one chain, a branch", w, 3002)
			opens(t, "one chain, a branch of a branch", behind, behind.Index+2)
			if !slices.Equal(behind.Held, kept) {
				t.Fatalf("behind %d: another branch has changed it", number)
			}
			if !same(w, want) {
				t.Fatal("the chain is changed")
			}
		}
		refusesNumber(t, "one chain", w, 900, api.ErrOld)
		refusesNumber(t, "one chain", w, 4001, api.ErrSkip)
	}
	for i := 900; i < 2900; i++ {
		if whole[i] != (Held{Index: 77}) {
			t.Fatal("the spare room is changed")
		}
	}
}

// P2: nobody who adds to a list that was answered changes that of another chain.
func TestSpareRoom(t *testing.T) {
	w := opens(t, "some passed over", following(10, 0, 0), 15)
	next := opens(t, "nothing passed over", w, 16)
	late := opens(t, "one that is held", next, 12)
	for _, x := range []Follower{w, next, late} {
		all := [][]Held{slices.Clone(w.Held), slices.Clone(next.Held), slices.Clone(late.Held)}
		_ = append(x.Held, Held{99, api.Key{9}})
		for i, y := range []Follower{w, next, late} {
			if !slices.Equal(y.Held, all[i]) {
				t.Errorf("chain %d is changed", i)
			}
		}
		for _, h := range x.Held[len(x.Held):cap(x.Held)] {
			if h != (Held{}) && h != (Held{99, api.Key{9}}) {
				t.Errorf("the spare room tells a key: %+v", h)
			}
		}
	}
	one, two := next.Waiting(), next.Waiting()
	clear(one[:cap(one)])
	if !slices.Equal(two, []uint32{10, 11, 12, 13, 14}) || !slices.Equal(next.Waiting(), two) {
		t.Error("Waiting: answers share memory")
	}
}

// scrub: all lists of a frame, their spare room too, are filled with noughts.
func scrub(f api.Frame) {
	clear(f.Keys[:cap(f.Keys)])
	clear(f.Nums[:cap(f.Nums)])
	clear(f.Sigs[:cap(f.Sigs)])
	clear(f.Data[:cap(f.Data)])
}

// P2: frames and texts that are answered share no memory, and no text that is handed in is changed or kept.
func TestAnswersAreApart(t *testing.T) {
	s, text := at(3), some(40)
	_, one, _ := s.Seal(text[:20])
	_, two, e := s.Seal(text[:20])
	want := copied(two)
	scrub(one)
	if e != api.OK || !bytes.Equal(text, some(40)) {
		t.Errorf("Seal: %v, or the text is changed", e)
	}
	clear(text)
	if !alike(two, want) {
		t.Error("Seal: what is answered is changed")
	}
	first, second := s.Share(), s.Share()
	want = copied(second)
	scrub(first)
	if !alike(second, want) {
		t.Error("Share: what is answered is changed")
	}
}

// P2: frames that are handed in are neither changed nor kept, their spare room neither.
func TestFramesAreApart(t *testing.T) {
	w := following(3, 0, 1)
	_, key, _ := slowFind(t, w, 5)
	f := sealed(t, w.Place, 5, key, seed(), some(30))
	room := api.Frame{Keys: append(f.Keys, api.Key{1}), Nums: append(f.Nums, 2), Sigs: append(f.Sigs, api.Sig{3}), Data: append(f.Data, 4)}
	before := copied(room)
	f.Keys, f.Nums, f.Sigs, f.Data = room.Keys[:1], room.Nums[:2], room.Sigs[:1], room.Data[:46]
	behind, first, _ := w.Open(f)
	kept := behind
	kept.Held = slices.Clone(behind.Held)
	_, second, e := w.Open(f)
	clear(first[:cap(first)])
	if e != api.OK || !bytes.Equal(second, some(30)) || !alike(room, before) {
		t.Errorf("Open: %v, or what was handed in is changed", e)
	}
	scrub(room)
	if !bytes.Equal(second, some(30)) || !same(behind, kept) {
		t.Error("Open: what was handed in is kept")
	}
	shared := at(9).Share()
	followed, e := Follow(shared)
	scrub(shared)
	if e != api.OK || !same(followed, Follower{Place: at(9).Place, Public: slowPublic(seed())}) {
		t.Errorf("Follow: %v, or what was handed in is kept", e)
	}
}
