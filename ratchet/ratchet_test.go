package ratchet

import (
	"bytes"
	"math"
	"math/rand"
	"reflect"
	"slices"
	"testing"

	"intaglio/agree"
	"intaglio/api"
	"intaglio/frame"
)

// secret: what two have come to.
func secret() agree.Secret {
	k := chance(1, 2)
	return agree.Secret{Key: k[0], Bound: k[1]}
}

// pair: two at their beginning.
func pair(t testing.TB) (State, State) {
	t.Helper()
	pre := chance(2, 1)[0]
	a, e := Begin(secret(), slowPublic(t, pre), chance(3, 1)[0])
	if e != api.OK {
		t.Fatal(e)
	}
	return a, Accept(secret(), pre)
}

// talking: a state with both chains open, so many taken of each, and so many keys held.
func talking(t testing.TB, sent, got uint32, held int) State {
	t.Helper()
	k := chance(4, 7)
	s := State{Root: k[0], Own: k[1], Theirs: slowPublic(t, k[2]), Bound: k[3], Before: 9}
	s.Send, s.Got = Side{k[4], sent, true}, Side{k[5], got, true}
	for i, key := range chance(5, held) {
		s.Held = append(s.Held, Held{Theirs: k[6], Number: uint32(i), Key: key})
	}
	return s
}

// small: public keys with which nobody agrees on anything.
func small() []api.Key {
	return []api.Key{{}, {1}, {31: 0x80}, {1, 31: 0x80}}
}

// The limits are those of the chapter.
func TestLimits(t *testing.T) {
	if MaxSkip != 64 || MaxHeld != 128 || MaxCount != 16777216 {
		t.Errorf("%d, %d, %d", MaxSkip, MaxHeld, MaxCount)
	}
}

// P15.1: the next key of a side, and its end.
func TestNext(t *testing.T) {
	for _, count := range []uint32{0, 1, 63, 16777214, 16777215} {
		for _, open := range []bool{true, false} {
			d := Side{chance(6, 1)[0], count, open}
			want := d
			key, _ := slowNext(&want)
			if behind, k, e := d.next(); e != api.OK || k != key || behind != want {
				t.Errorf("%d taken: %x, %v, %+v", count, k, e, behind)
			}
		}
	}
	for _, count := range []uint32{16777216, 16777217, 1 << 25, math.MaxUint32} {
		if behind, k, e := (Side{Count: count, Open: true}).next(); e != api.ErrFull || k != (api.Key{}) || behind != (Side{}) {
			t.Errorf("%d taken: %x, %v, %+v", count, k, e, behind)
		}
	}
}

// P15.1 and P15.2: Begin, held against the library.
func TestBegin(t *testing.T) {
	for i, k := range append(chance(7, 6), api.Key{}, api.Key{31: 0xff}) {
		theirs := slowPublic(t, chance(8, 8)[i])
		want := State{Root: secret().Key, Own: k, Theirs: theirs, Bound: secret().Bound}
		if e := slowTurn(t, &want, &want.Send); e != api.OK {
			t.Fatal(e)
		}
		if s, e := Begin(secret(), theirs, k); e != api.OK || !same(s, want) {
			t.Errorf("%d: %v, %+v, not %+v", i, e, s, want)
		}
		theirs[31] ^= 0x80 // this bit doesn't count for what is agreed on, but it is kept
		want.Theirs = theirs
		if s, e := Begin(secret(), theirs, k); e != api.OK || !same(s, want) {
			t.Errorf("%d, another highest bit: %v, %+v, not %+v", i, e, s, want)
		}
	}
	for i, k := range small() {
		if s, e := Begin(secret(), k, api.Key{8}); e != api.ErrZero || !same(s, State{}) {
			t.Errorf("small key %d: %v, %+v", i, e, s)
		}
	}
}

// P15.2: Accept.
func TestAccept(t *testing.T) {
	for i, k := range append(chance(9, 3), api.Key{}) {
		if s := Accept(secret(), k); !same(s, State{Root: secret().Key, Own: k, Bound: secret().Bound}) {
			t.Errorf("%d: %+v", i, s)
		}
	}
}

// P15.3: letters of all lengths, one behind the other, held against the library.
func TestSeal(t *testing.T) {
	s, _ := pair(t)
	other := talking(t, 7, 3, 5)
	for _, n := range []int{0, 1, 2, 63, 64, 65, 1000, 16367, 16368} {
		s, _ = seals(t, "who began", s, some(n))
		other, _ = seals(t, "who talks", other, some(n))
	}
	for _, n := range []int{16369, 16384, 16385, 1 << 20, 1<<20 + 1} {
		refusesText(t, "too long", s, make([]byte, n), api.ErrLong)
	}
	if s.Send.Count != 9 || other.Send.Count != 16 {
		t.Errorf("%d and %d were sent", s.Send.Count, other.Send.Count)
	}
	full, f := seals(t, "the longest", s, some(16368))
	if _, e := frame.Encode(f); e != api.OK || len(f.Data) != frame.MaxData || full.Send.Count != 10 {
		t.Errorf("the longest letter: %v", e)
	}
}

// P15.3: the errors of Seal, in their order.
func TestSealOfNoState(t *testing.T) {
	_, b := pair(t)
	long := make([]byte, 16369)
	for _, text := range [][]byte{nil, {1}, long} {
		refusesText(t, "who accepted", b, text, api.ErrState)
		refusesText(t, "nobody", State{}, text, api.ErrState)
		got := talking(t, MaxCount, 3, 0)
		got.Send.Open = false
		refusesText(t, "who got only", got, text, api.ErrState)
		for _, count := range []uint32{16777216, 16777217, math.MaxUint32} {
			refusesText(t, "all sent", talking(t, count, 3, 2), text, api.ErrFull)
		}
	}
	last := talking(t, 16777215, 3, 0)
	refusesText(t, "too long", last, long, api.ErrLong)
	last, f := seals(t, "the last", last, []byte("last"))
	if f.Nums[1] != 16777215 {
		t.Errorf("the last is %d", f.Nums[1])
	}
	refusesText(t, "behind the last", last, nil, api.ErrFull)
}

// P15.4: what is no letter.
func TestOpenOfNoLetter(t *testing.T) {
	s := talking(t, 1, 0, 0)
	for i := range 3 * 4 * 2 * 9 {
		keys, nums, sigs, kind := i%3, i/3%4, i/12%2, i/24
		if keys == 1 && nums == 2 && sigs == 0 && kind == 3 {
			continue
		}
		f := api.Frame{Kind: kind, Keys: make([]api.Key, keys), Nums: make([]uint32, nums), Sigs: make([]api.Sig, sigs), Data: make([]byte, 20)}
		refuses(t, "another shape", s, f, api.Key{8}, api.ErrShape)
		f.Data = nil
		refuses(t, "another shape without data", s, f, api.Key{8}, api.ErrShape)
	}
	_, key, _ := slowFind(t, s, letter{key: s.Theirs}, api.Key{8})
	good := sealed(t, letter{key: s.Theirs}, key, s.Bound, some(16368))
	if _, text, e := s.Open(good, api.Key{8}); e != api.OK || len(text) != 16368 {
		t.Errorf("the longest letter: %d bytes, %v", len(text), e)
	}
	for _, kind := range []int{math.MinInt, -3, 0, 1, 2, 4, 5, 6, 7, 8, 259, 1<<32 + 3, math.MaxInt} {
		f := good
		f.Kind = kind
		refuses(t, "another kind", s, f, api.Key{8}, api.ErrShape)
	}
	for _, n := range []int{16385, 1 << 17, 1<<20 + 17} {
		refuses(t, "too much data", s, framed(letter{key: s.Theirs}, make([]byte, n)), api.Key{8}, api.ErrShape)
	}
}

// P15.4: a letter is read, and read once more; who accepted can't write ahead of that.
func TestExample(t *testing.T) {
	a, b := pair(t)
	a, f := seals(t, "who began", a, []byte("hello"))
	refusesText(t, "who accepted", b, []byte("early"), api.ErrState)
	b, text, e := b.Open(f, api.Key{80})
	if e != api.OK || string(text) != "hello" {
		t.Fatalf("%q, %v", text, e)
	}
	refuses(t, "once more", b, f, api.Key{88}, api.ErrOld)
	b, g := seals(t, "who accepted", b, []byte("back"))
	a, text, e = a.Open(g, api.Key{96})
	if e != api.OK || string(text) != "back" {
		t.Fatalf("%q, %v", text, e)
	}
	refuses(t, "once more", a, g, api.Key{104}, api.ErrOld)
	if a.Before != 1 || a.Send.Count != 0 || b.Before != 0 || b.Send.Count != 1 {
		t.Errorf("%+v, %+v", a, b)
	}
}

// P15.4: the first letter of a new key, where nothing was got and where something was: what turns, and what stays.
func TestNewKey(t *testing.T) {
	k := slowPublic(t, chance(10, 1)[0])
	_, b := pair(t)
	a, _ := pair(t)
	fresh := chance(11, 1)[0]
	for _, before := range []uint32{0, 1, 64, 65, 1 << 24, math.MaxUint32} { // nothing was got: there is nothing to skip
		for _, number := range []uint32{0, 1, 64} {
			opens(t, "who accepted", b, letter{k, before, number}, fresh)
			opens(t, "who began", a, letter{k, before, number}, fresh)
			opens(t, "who began, the same key", a, letter{a.Theirs, before, number}, fresh)
		}
		refusesLetter(t, "who accepted, too far", b, letter{k, before, 65}, api.ErrSkip)
	}
	s := talking(t, 5, 10, 3)
	for _, before := range []uint32{0, 9, 10, 11, 73, 74} {
		behind := opens(t, "who talks", s, letter{k, before, 2}, fresh)
		if behind.Before != 5 || behind.Send.Count != 0 || behind.Own != fresh || behind.Got.Count != 3 || behind.Bound != s.Bound {
			t.Errorf("behind a new key: %+v", behind)
		}
		passed := int(max(before, 10)) - 10
		if len(behind.Held) != 3+passed+2 || passed > 0 && behind.Held[3].Theirs != s.Theirs || behind.Held[3+passed].Theirs != k {
			t.Errorf("behind a new key, %d before: %d are held", before, len(behind.Held))
		}
	}
	for _, before := range []uint32{75, 76, 1 << 24, math.MaxUint32} {
		for _, number := range []uint32{0, 64, 65, math.MaxUint32} {
			refusesLetter(t, "too many before", s, letter{k, before, number}, api.ErrSkip)
		}
	}
}

// P15.4: the errors of a new key, in their order: what is skipped, what isn't agreed on, what is skipped of the new chain.
func TestNewKeyRefused(t *testing.T) {
	s, k := talking(t, 5, 10, 3), slowPublic(t, chance(10, 1)[0])
	for _, small := range small() {
		refusesLetter(t, "small key", s, letter{small, 10, 0}, api.ErrZero)
		refusesLetter(t, "small key, and too far", s, letter{small, 74, 65}, api.ErrZero)
		refusesLetter(t, "small key, and too many before", s, letter{small, 75, 0}, api.ErrSkip)
		refusesLetter(t, "small key, who accepted", Accept(secret(), s.Own), letter{small, 75, 0}, api.ErrZero)
		full := talking(t, 5, MaxCount, 3)
		refusesLetter(t, "small key, and no key left", full, letter{small, MaxCount + 1, 0}, api.ErrFull)
	}
	refusesLetter(t, "too far", s, letter{k, 10, 65}, api.ErrSkip)
	refusesLetter(t, "much too far", s, letter{k, 10, math.MaxUint32}, api.ErrSkip)
	for _, theirs := range small() { // a state may have such a key, and no letter but of another one is read
		s.Theirs = theirs
		opens(t, "out of a small key", s, letter{k, 12, 1}, api.Key{80})
		opens(t, "of a small key whose chain is open", s, letter{theirs, 0, 12}, api.Key{80})
		s.Got.Open = false
		refusesLetter(t, "small key, the same", s, letter{theirs, 0, 10}, api.ErrZero)
		s.Got.Open = true
	}
}

// P15.4 and P15.5: letters of the key that is known: read in their order, ahead of it, and behind it.
func TestSameKey(t *testing.T) {
	s := talking(t, 5, 100, 3)
	for _, number := range []uint32{100, 101, 163, 164} {
		for _, before := range []uint32{0, 100, 200, math.MaxUint32} { // it isn't asked
			behind := opens(t, "ahead", s, letter{s.Theirs, before, number}, api.Key{80})
			if behind.Got.Count != number+1 || behind.Send != s.Send || behind.Own != s.Own || behind.Root != s.Root || behind.Before != s.Before {
				t.Errorf("behind number %d: %+v", number, behind)
			}
		}
	}
	for _, number := range []uint32{165, 166, 1 << 24, math.MaxUint32} {
		refusesLetter(t, "too far", s, letter{s.Theirs, 0, number}, api.ErrSkip)
	}
	for _, number := range []uint32{0, 1, 2, 98, 99} { // the numbers of other keys are held, not these
		refusesLetter(t, "behind", s, letter{s.Theirs, 0, number}, api.ErrOld)
	}
	s.Theirs = api.Key{} // a key is held against another by its bytes alone
	opens(t, "zero key", s, letter{number: 103}, api.Key{80})
}

// P15.1, P15.4 and P15.5: the end of a chain.
func TestEndOfChain(t *testing.T) {
	k := slowPublic(t, chance(10, 1)[0])
	s := talking(t, 5, 16777214, 1)
	s = opens(t, "the last but one", s, letter{s.Theirs, 0, 16777214}, api.Key{80})
	opens(t, "new key, one left", s, letter{k, 16777216, 0}, api.Key{80})
	refusesLetter(t, "new key, more than are left", s, letter{k, 16777217, 0}, api.ErrFull)
	refusesLetter(t, "the last passed over", s, letter{s.Theirs, 0, 16777216}, api.ErrFull)
	refusesLetter(t, "more than are left", s, letter{s.Theirs, 0, 16777217}, api.ErrFull)
	refusesLetter(t, "too far", s, letter{s.Theirs, 0, 16777215 + 65}, api.ErrSkip)
	s = opens(t, "the last", s, letter{s.Theirs, 0, 16777215}, api.Key{80})
	refusesLetter(t, "behind the last", s, letter{s.Theirs, 0, 16777216}, api.ErrFull)
	refusesLetter(t, "the last once more", s, letter{s.Theirs, 0, 16777215}, api.ErrOld)
	for _, count := range []uint32{16777217, 1 << 31, math.MaxUint32 - 63, math.MaxUint32 - 5, math.MaxUint32} {
		s := talking(t, math.MaxUint32, count, 1)
		refusesLetter(t, "beyond the end", s, letter{s.Theirs, 0, count}, api.ErrFull)
		refusesLetter(t, "beyond the end, before", s, letter{s.Theirs, 0, count - 1}, api.ErrOld)
		refusesLetter(t, "beyond the end, far before", s, letter{s.Theirs, 0, 3}, api.ErrOld)
		if count < math.MaxUint32 {
			refusesLetter(t, "beyond the end, ahead", s, letter{s.Theirs, 0, math.MaxUint32}, errnoAhead(count))
			refusesLetter(t, "beyond the end, new key", s, letter{k, count + 1, 0}, api.ErrFull)
		}
		behind := opens(t, "beyond the end, new key, nothing to skip", s, letter{k, count, 0}, api.Key{80})
		if behind.Before != math.MaxUint32 {
			t.Errorf("Before is %d", behind.Before)
		}
	}
}

// errnoAhead: the error of the greatest number, behind so many.
func errnoAhead(count uint32) api.Errno {
	if math.MaxUint32-count > 64 {
		return api.ErrSkip
	}
	return api.ErrFull
}

// P15.4: keys that are held: of just that key and number, the first one; nothing else moves, and what isn't opened stays held.
func TestHeld(t *testing.T) {
	k := chance(12, 4)
	for _, open := range []bool{true, false} {
		s := talking(t, 5, 10, 0)
		s.Got.Open = open
		s.Held = []Held{{k[0], 4, k[1]}, {k[1], 3, k[2]}, {k[0], 3, k[2]}, {k[0], 3, k[3]}, {s.Theirs, 3, k[3]}, {s.Theirs, 12, k[1]}, {api.Key{}, 0, k[0]}}
		for i, h := range s.Held {
			l := letter{h.Theirs, math.MaxUint32, h.Number}
			behind := opens(t, "held", s, l, api.Key{80})
			want := s
			want.Held = slices.Concat(s.Held[:i], s.Held[i+1:])
			if i == 3 { // the one ahead of it stands first
				want.Held = slices.Concat(s.Held[:2], s.Held[3:])
			}
			if !same(behind, want) {
				t.Errorf("held %d: %+v", i, behind)
			}
		}
		once := opens(t, "the first of two", s, letter{k[0], 0, 3}, api.Key{80})
		twice := opens(t, "the second of two", once, letter{k[0], 0, 3}, api.Key{80})
		if len(twice.Held) != 5 || !slices.Equal(once.Held, slices.Concat(s.Held[:2], s.Held[3:])) {
			t.Errorf("behind both: %+v", twice.Held)
		}
	}
}

// P15.5: no more than MaxHeld are held, the eldest go; of a state with more, whenever something was to be skipped, but not where the key is held.
func TestMaxHeld(t *testing.T) {
	k := slowPublic(t, chance(10, 1)[0])
	for _, held := range []int{0, 1, 63, 64, 65, 127, 128, 129, 200, 300} {
		s := talking(t, 5, 10, held)
		for _, number := range []uint32{10, 11, 73, 74} {
			behind := opens(t, "same key", s, letter{s.Theirs, 0, number}, api.Key{80})
			if len(behind.Held) != min(held+int(number)-10, 128) {
				t.Errorf("%d held, then %d", held, len(behind.Held))
			}
			for _, before := range []uint32{0, 10, 40, 74} {
				opens(t, "new key", s, letter{k, before, number - 10}, api.Key{80})
			}
		}
		if held == 0 {
			continue
		}
		behind := opens(t, "held", s, letter{s.Held[0].Theirs, 0, 0}, api.Key{80})
		if len(behind.Held) != held-1 {
			t.Errorf("%d held, then %d", held, len(behind.Held))
		}
		s.Got.Open = false
		opens(t, "nothing was got", s, letter{k, 74, 0}, api.Key{80})
		opens(t, "nothing was got, some passed over", s, letter{k, 74, 40}, api.Key{80})
	}
}

// P15.3 and P15.4: a letter is bound to Bound and to all that it tells; no bit of it may be another.
func TestEveryBit(t *testing.T) {
	s := talking(t, 5, 0, 0)
	l := letter{s.Theirs, 3, 1}
	_, key, _ := slowFind(t, s, l, api.Key{80})
	f := sealed(t, l, key, s.Bound, []byte("text"))
	for i := range 8 * len(f.Data) {
		g := f
		g.Data = bytes.Clone(f.Data)
		g.Data[i/8] ^= 1 << (i % 8)
		refuses(t, "another bit of the data", s, g, api.Key{80}, api.ErrTag)
	}
	for i := range 32 {
		g := f
		g.Nums = []uint32{l.before ^ 1<<i, l.number}
		refuses(t, "another number before", s, g, api.Key{80}, api.ErrTag)
		g.Nums = []uint32{l.before, l.number ^ 1<<i}
		want := api.ErrTag
		if i > 5 {
			want = api.ErrSkip
		}
		refuses(t, "another number", s, g, api.Key{80}, want)
	}
	for i := range 256 {
		g := f
		g.Keys = slices.Clone(f.Keys)
		g.Keys[0][i/8] ^= 1 << (i % 8)
		refuses(t, "another key", s, g, api.Key{80}, api.ErrTag)
		other := s
		other.Bound[i/8] ^= 1 << (i % 8)
		refuses(t, "bound to another", other, f, api.Key{80}, api.ErrTag)
	}
}

// wild: a raw state, its numbers at edges.
func wild(t testing.TB, r *rand.Rand, keys []api.Key) State {
	counts := []uint32{0, 1, 2, 60, 70, 16777150, 16777214, 16777215, 16777216, 1 << 30, math.MaxUint32 - 3, math.MaxUint32}
	key := func() api.Key { return keys[r.Intn(len(keys))] }
	side := func() Side { return Side{key(), counts[r.Intn(len(counts))], r.Intn(5) > 0} }
	s := State{Root: key(), Own: key(), Theirs: key(), Bound: key(), Send: side(), Got: side(), Before: r.Uint32()}
	for range []int{0, 1, 2, 5, 100, 128, 140}[r.Intn(7)] {
		s.Held = append(s.Held, Held{key(), uint32(r.Intn(80)), key()})
	}
	return s
}

// P15.4, P15.5, P1 and P2: any letters to any states, held against the model.
func TestAnyLetters(t *testing.T) {
	r := rand.New(rand.NewSource(15))
	keys := append(small(), chance(13, 4)...)
	for _, k := range chance(14, 4) {
		keys = append(keys, slowPublic(t, k))
	}
	count := map[api.Errno]int{}
	for range 2500 {
		s := wild(t, r, keys)
		near := func() uint32 { return s.Got.Count + uint32(r.Intn(70)) - 3 } // it may go round
		l := letter{keys[r.Intn(len(keys))], near(), near()}
		if r.Intn(2) == 0 {
			l.key = s.Theirs
		} else if r.Intn(4) > 0 {
			l.number = uint32(r.Intn(67))
		}
		fresh := keys[r.Intn(len(keys))]
		_, _, e := slowFind(t, s, l, fresh)
		count[e]++
		if e == api.OK {
			opens(t, "any", s, l, fresh)
		} else {
			refuses(t, "any", s, framed(l, some(r.Intn(40))), fresh, e)
		}
		if s.Send.Open && s.Send.Count < MaxCount {
			seals(t, "any", s, some(r.Intn(40)))
		}
	}
	for _, e := range []api.Errno{api.OK, api.ErrOld, api.ErrSkip, api.ErrFull, api.ErrZero} {
		if count[e] < 50 {
			t.Errorf("too few of a kind: %v", count)
		}
	}
}

// P15.3 to P15.5: two talk, and letters come late, twice or never: each that is within the limits is read once, with its text.
func TestTalk(t *testing.T) {
	r := rand.New(rand.NewSource(16))
	a, b := pair(t)
	sides := []State{a, b}
	type sent struct {
		f    api.Frame
		text []byte
		read bool
	}
	under := make([][]*sent, 2) // what is on its way to each
	keys, read, late := chance(17, 4000), 0, 0
	for round := range 1500 {
		i := r.Intn(2)
		if !sides[i].Send.Open || r.Intn(2) == 0 && len(under[i]) > 0 {
			if len(under[i]) == 0 {
				continue
			}
			at := max(0, len(under[i])-1-r.Intn(6))
			x := under[i][at]
			behind, text, e := sides[i].Open(x.f, keys[round])
			if x.read {
				if e == api.OK {
					t.Fatalf("round %d: read twice", round)
				}
				continue
			}
			if e != api.OK || !bytes.Equal(text, x.text) {
				t.Fatalf("round %d: %x, %v", round, text, e)
			}
			if x.f.Keys[0] != behind.Theirs {
				late++
			}
			sides[i], x.read = behind, true
			read++
		} else {
			text := some(r.Intn(100))
			var f api.Frame
			sides[i], f = seals(t, "talk", sides[i], text)
			under[1-i] = append(under[1-i], &sent{f: f, text: text})
		}
	}
	if read < 300 || late < 20 {
		t.Errorf("only %d were read, %d of them late", read, late)
	}
}

// P2: a state stays what it is: what was read of it is read of it again, whatever came of it.
func TestStatesAreValues(t *testing.T) {
	s := talking(t, 5, 10, 100)
	whole := slices.Grow(s.Held, 200)[:300]
	for i := 100; i < 300; i++ {
		whole[i] = Held{Number: 77}
	}
	s.Held = whole[:100:300]
	want := s
	want.Held = slices.Clone(s.Held)
	k := slowPublic(t, chance(10, 1)[0])
	letters := []letter{{s.Theirs, 0, 15}, {s.Theirs, 0, 74}, {k, 20, 7}, {s.Held[50].Theirs, 0, 50}, {s.Held[0].Theirs, 0, 0}, {s.Theirs, 0, 75}, {k, 11, 65}}
	for range 2 {
		for _, l := range letters {
			if _, _, e := slowFind(t, s, l, api.Key{80}); e == api.OK {
				opens(t, "one state", s, l, api.Key{80})
			} else {
				refusesLetter(t, "one state", s, l, e)
			}
			seals(t, "one state", s, some(9))
			if !same(s, want) {
				t.Fatal("the state is changed")
			}
		}
	}
	for i := 100; i < 300; i++ {
		if whole[i] != (Held{Number: 77}) {
			t.Fatal("the spare room is changed")
		}
	}
}

// P2: frames and texts are neither changed nor kept, and answers share no memory with them or one another.
func TestFramesAreApart(t *testing.T) {
	s := talking(t, 5, 0, 0)
	text := some(40)
	_, one, _ := s.Seal(text[:20])
	_, two, e := s.Seal(text[:20])
	want := api.Frame{Kind: two.Kind, Keys: slices.Clone(two.Keys), Nums: slices.Clone(two.Nums), Data: bytes.Clone(two.Data)}
	clear(one.Keys[:cap(one.Keys)])
	clear(one.Nums[:cap(one.Nums)])
	clear(one.Data[:cap(one.Data)])
	if e != api.OK || !bytes.Equal(text, some(40)) {
		t.Errorf("Seal: %v, or the text is changed", e)
	}
	clear(text)
	if !reflect.DeepEqual(two, want) {
		t.Error("Seal: what is answered is changed")
	}
	l := letter{s.Theirs, 0, 1}
	_, key, _ := slowFind(t, s, l, api.Key{80})
	f := sealed(t, l, key, s.Bound, some(30))
	room := api.Frame{Keys: append(f.Keys, api.Key{1}), Nums: append(f.Nums, 2), Data: append(f.Data, 3)}
	before := api.Frame{Keys: slices.Clone(room.Keys), Nums: slices.Clone(room.Nums), Data: bytes.Clone(room.Data)}
	f.Keys, f.Nums, f.Data = room.Keys[:1], room.Nums[:2], room.Data[:46]
	behind, first, _ := s.Open(f, api.Key{80})
	kept := behind
	kept.Held = slices.Clone(behind.Held)
	_, second, e := s.Open(f, api.Key{80})
	clear(first[:cap(first)])
	if e != api.OK || !bytes.Equal(second, some(30)) || !reflect.DeepEqual(room, before) {
		t.Errorf("Open: %v, or what was handed in is changed", e)
	}
	clear(room.Keys)
	clear(room.Nums)
	clear(room.Data)
	if !bytes.Equal(second, some(30)) || !same(behind, kept) {
		t.Error("Open: what was handed in is kept")
	}
}
