package roster

import (
	"bytes"
	"math"
	"math/rand"
	"slices"
	"testing"

	"intaglio/api"
)

// step: of somebody to somebody, with the keys of the latter.
func step(op, by, to uint32) Step {
	m := somebody(to, false)
	return Step{Op: op, By: by, To: to, Sign: m.Sign, Agree: m.Agree}
}

// do: a change as it should be.
func do(r Roster, op, by, to uint32) api.Frame {
	return slowMake(r.Hash, seedOf(by), step(op, by, to))
}

// full: a roster of n members with the names 10, 20 and so on, the first of them an admin.
func full(n int) Roster {
	names := []uint32{10}
	for i := range n {
		names = append(names, uint32(i+1)*10)
	}
	return group(names...)
}

// The limit and the changes have the chapter's numbers.
func TestNumbers(t *testing.T) {
	if MaxMembers != 16 || !slices.Equal([]int{Create, Add, Remove, Promote, Demote, Leave}, []int{1, 2, 3, 4, 5, 6}) {
		t.Error("MaxMembers or a change has another number")
	}
}

// Find and Names, of rosters with 0 to 16 members.
func TestFindAndNames(t *testing.T) {
	for n := range 17 {
		r := full(n)
		if n == 0 {
			r.Members = nil
		}
		var want []uint32
		for i, m := range r.Members {
			want = append(want, uint32(i+1)*10)
			if found, ok := r.Find(m.Name); !ok || found != m {
				t.Errorf("%d members: %d isn't found", n, m.Name)
			}
		}
		if !slices.Equal(r.Names(), want) {
			t.Errorf("%d members: %d", n, r.Names())
		}
		for _, name := range []uint32{0, 1, 9, 11, 15, 19, 25, 155, 161, uint32(n+1) * 10, math.MaxUint32} {
			if found, ok := r.Find(name); ok || found != (Member{}) {
				t.Errorf("%d members: %d is found: %+v", n, name, found)
			}
		}
	}
	r := group(0, 0, 1, 1<<31-1, 1<<31, math.MaxUint32)
	for _, name := range []uint32{0, 1, 1<<31 - 1, 1 << 31, math.MaxUint32} {
		if m, ok := r.Find(name); !ok || m.Name != name || m.Admin != (name == 0) {
			t.Errorf("%d: %+v, %v", name, m, ok)
		}
	}
}

// P17.1: what Make answers, held against the library; whether it may be done isn't looked at.
func TestMake(t *testing.T) {
	k := append(chance(2, 3), api.Key{}, api.Key{2})
	for i, r := range []Roster{{}, group(1, 1), full(16), {Epoch: 9, Hash: k[4], Members: full(3).Members}} {
		for j, op := range []uint32{0, 1, 2, 3, 4, 5, 6, 7, 255, math.MaxUint32} {
			s := Step{Op: op, By: uint32(i*j) * 0x10204080, To: ^uint32(j), Sign: k[j%5], Agree: k[(i+j)%5]}
			for _, n := range []int{-1, 0, 1, 100, 16383, 16384} {
				if s.Note = nil; n >= 0 {
					s.Note = some(n)
				}
				f, e := r.Make(k[i], s)
				if want := slowMake(r.Hash, k[i], s); e != api.OK || !alike(f, want) {
					t.Fatalf("roster %d, op %d, %d bytes: %+v, %v, not %+v", i, op, n, f, e, want)
				}
			}
			for _, n := range []int{16385, 16386, 1 << 16, 1<<24 + 1} {
				s.Note = make([]byte, n)
				if f, e := r.Make(k[i], s); e != api.ErrLong || !alike(f, api.Frame{}) {
					t.Errorf("roster %d, op %d, %d bytes: %v", i, op, n, e)
				}
			}
		}
	}
}

// P17.2 and P17.3: all changes of all groups of some of three, held against the words.
func TestAllSmallGroups(t *testing.T) {
	count := map[api.Errno]int{}
	for kind := range 27 {
		var names []uint32
		for i, k := range []int{kind % 3, kind / 3 % 3, kind / 9} {
			for range k { // in it none, once, or twice: an admin
				names = append(names, uint32(i)*2+1)
			}
		}
		r := group(names...)
		for i := range 6 * 7 * 7 {
			op, by, to := uint32(i%6)+1, uint32(i/6%7), uint32(i/42)
			_, e := answers(t, "small", r, do(r, op, by, to))
			count[e]++
		}
	}
	if len(count) != 4 || min(count[api.OK], count[api.ErrRole], count[api.ErrTwice], count[api.ErrMissing]) < 50 {
		t.Errorf("too few of a kind: %v", count)
	}
}

// P17.2: each reason by itself, and which of two is told.
func TestReasons(t *testing.T) {
	none, two, flat := Roster{}, group(1, 1, 2), group(1, 2)
	for _, x := range []struct {
		what       string
		r          Roster
		op, by, to uint32
		want       api.Errno
	}{
		{"a group is made", none, Create, 1, 1, api.OK},
		{"a group of another", none, Create, 1, 2, api.ErrRole},
		{"a group, where there is one", two, Create, 1, 1, api.ErrTwice},
		{"a group of another, where there is one", two, Create, 3, 4, api.ErrTwice},
		{"by nobody", none, Add, 1, 2, api.ErrRole},
		{"by a stranger", two, Add, 3, 1, api.ErrRole},
		{"by one who is no admin", two, Add, 2, 1, api.ErrRole},
		{"of one who isn't there, by one who is no admin", two, Remove, 2, 9, api.ErrRole},
		{"added", two, Add, 1, 3, api.OK},
		{"added twice", two, Add, 1, 2, api.ErrTwice},
		{"added oneself", two, Add, 1, 1, api.ErrTwice},
		{"removed", two, Remove, 1, 2, api.OK},
		{"removed a stranger", two, Remove, 1, 3, api.ErrMissing},
		{"removed oneself, the only admin", two, Remove, 1, 1, api.ErrRole},
		{"removed oneself, the only one", group(1, 1), Remove, 1, 1, api.OK},
		{"removed another admin", group(1, 1, 2, 2), Remove, 1, 2, api.OK},
		{"removed oneself, one of two admins", group(1, 1, 2, 2), Remove, 1, 1, api.OK},
		{"promoted", two, Promote, 1, 2, api.OK},
		{"promoted a stranger", two, Promote, 1, 3, api.ErrMissing},
		{"promoted twice", two, Promote, 1, 1, api.ErrTwice},
		{"promoted oneself", two, Promote, 2, 2, api.ErrRole},
		{"demoted", group(1, 1, 2, 2), Demote, 1, 2, api.OK},
		{"demoted oneself", group(1, 1, 2, 2), Demote, 1, 1, api.OK},
		{"demoted a stranger", two, Demote, 1, 3, api.ErrMissing},
		{"demoted one who is no admin", two, Demote, 1, 2, api.ErrTwice},
		{"demoted the only admin", two, Demote, 1, 1, api.ErrRole},
		{"demoted the only admin, the only one", group(1, 1), Demote, 1, 1, api.ErrRole},
		{"left", two, Leave, 2, 2, api.OK},
		{"left, the only admin", two, Leave, 1, 1, api.ErrRole},
		{"left, the only one", group(1, 1), Leave, 1, 1, api.OK},
		{"left, one of two admins", group(1, 1, 2, 2), Leave, 1, 1, api.OK},
		{"left for another", two, Leave, 1, 2, api.ErrRole},
		{"left for a stranger", two, Leave, 1, 3, api.ErrRole},
		{"left as a stranger", two, Leave, 3, 3, api.ErrRole},
		{"left, where nobody is an admin", flat, Leave, 1, 1, api.OK},
		{"added, where nobody is an admin", flat, Add, 1, 3, api.ErrRole},
		{"left as a stranger to nobody", none, Leave, 3, 3, api.ErrRole},
	} {
		if _, e := answers(t, x.what, x.r, do(x.r, x.op, x.by, x.to)); e != x.want {
			t.Errorf("%s: %v, not %v", x.what, e, x.want)
		}
	}
}

// P17.2: as many members as there may be.
func TestFull(t *testing.T) {
	r := full(15)
	for _, name := range []uint32{0, 5, 11, 85, 151, math.MaxUint32} {
		whole := applies(t, "the last one", r, do(r, Add, 10, name))
		if len(whole.Members) != 16 {
			t.Errorf("%d members", len(whole.Members))
		}
		for _, more := range []uint32{1, 12, 86, 152, math.MaxUint32 - 1} {
			refuses(t, "one more", whole, do(whole, Add, 10, more), api.ErrFull)
		}
		refuses(t, "the last one twice", whole, do(whole, Add, 10, name), api.ErrTwice)
		refuses(t, "by one who is no admin", whole, do(whole, Add, 20, 1), api.ErrRole)
		less := applies(t, "one less", whole, do(whole, Remove, 10, 70))
		applies(t, "one more again", less, do(less, Add, 10, 1))
	}
}

// P17.3: the example of the chapter, from nothing on.
func TestExample(t *testing.T) {
	var r Roster
	create := do(r, Create, 7, 7)
	r = applies(t, "made", r, create)
	if r.Epoch != 1 || !slices.Equal(r.Members, []Member{somebody(7, true)}) {
		t.Errorf("made: %+v", r)
	}
	add := do(r, Add, 7, 3)
	r = applies(t, "added", r, add)
	if r.Epoch != 2 || !slices.Equal(r.Names(), []uint32{3, 7}) || r.Members[0] != somebody(3, false) {
		t.Errorf("added: %+v", r)
	}
	refuses(t, "added once more", r, add, api.ErrEpoch)
	refuses(t, "made once more", r, create, api.ErrEpoch)
}

// P17.3: what is no change.
func TestApplyOfNoChange(t *testing.T) {
	r := group(1, 1, 2)
	for i := range 5 * 5 * 3 * 9 {
		keys, nums, sigs, kind := i%5, i/5%5, i/25%3, i/75
		if keys == 3 && nums == 3 && sigs == 1 && kind == 6 {
			continue
		}
		f := api.Frame{Kind: kind, Keys: make([]api.Key, keys), Nums: make([]uint32, nums), Sigs: make([]api.Sig, sigs), Data: make([]byte, 20)}
		for j := range f.Nums {
			f.Nums[j] = 1
		}
		refuses(t, "another shape", r, f, api.ErrShape)
		f.Data = nil
		refuses(t, "another shape without data", r, f, api.ErrShape)
	}
	good := do(r, Add, 1, 3)
	for _, kind := range []int{math.MinInt, -6, 0, 1, 5, 7, 8, 262, 1<<32 + 6, math.MaxInt} {
		f := good
		f.Kind = kind
		refuses(t, "another kind", r, f, api.ErrShape)
	}
	for _, n := range []int{16385, 1 << 16, 1<<24 + 1} {
		for _, hash := range []api.Key{r.Hash, {}} {
			refuses(t, "too long a note", r, signed(seedOf(1), api.Frame{Kind: 6, Keys: []api.Key{hash, {}, {}}, Nums: good.Nums, Data: make([]byte, n)}), api.ErrShape)
		}
	}
	for _, op := range []uint32{0, 7, 8, 257, 1 << 16, 1<<31 + 1, math.MaxUint32} {
		refuses(t, "no such change", r, do(r, op, 1, 3), api.ErrShape)
		refuses(t, "no such change, of another roster", r, do(Roster{}, op, 1, 3), api.ErrShape)
		refuses(t, "no such change of nothing", Roster{}, do(Roster{}, op, 1, 1), api.ErrShape)
	}
}

// P17.3: a change of another roster is told ahead of all else; no bit of the hash may be another.
func TestApplyToAnother(t *testing.T) {
	r := group(1, 1, 2)
	for i := range 256 {
		other := r
		other.Hash[i/8] ^= 1 << (i % 8)
		refuses(t, "added, of another", r, do(other, Add, 1, 3), api.ErrEpoch)
		refuses(t, "made, of another", r, do(other, Create, 1, 1), api.ErrEpoch)
		f := do(other, Add, 1, 3)
		f.Sigs[0] = api.Sig{}
		refuses(t, "not signed, of another", r, f, api.ErrEpoch)
	}
	again := r
	again.Epoch = 99 // the number isn't asked
	applies(t, "another number", again, do(r, Add, 1, 3))
}

// P17.3: no bit of a signed change may be another; why it may not be done is told ahead of the signature.
func TestEveryBit(t *testing.T) {
	r := group(1, 1, 2)
	s := step(Add, 1, 3)
	s.Note = some(9)
	good := slowMake(r.Hash, seedOf(1), s)
	applies(t, "good", r, good)
	for i := range 8 * (64 + 64 + 9) {
		f, bit := copied(good), byte(1)<<(i%8)
		switch at := i / 8; {
		case at < 64:
			f.Sigs[0][at] ^= bit
		case at < 128:
			f.Keys[1+at/96][at%32] ^= bit
		default:
			f.Data[at-128] ^= bit
		}
		refuses(t, "another bit", r, f, api.ErrSign)
	}
	for i := range 96 {
		f := copied(good)
		f.Nums[i/32] ^= 1 << (i % 32)
		if _, e := answers(t, "another number", r, f); e == api.OK {
			t.Errorf("number %d, bit %d: it is applied", i/32, i%32)
		}
	}
	for _, note := range [][]byte{nil, {0}, some(9)[:8], append(some(9), 0)} {
		f := copied(good)
		f.Data = note
		refuses(t, "another note", r, f, api.ErrSign)
	}
	f := do(r, Add, 2, 3)
	f.Sigs[0] = api.Sig{}
	refuses(t, "neither allowed nor signed", r, f, api.ErrRole)
}

// P17.3: under whose key a change must be signed.
func TestSigner(t *testing.T) {
	r := group(1, 1, 2, 2, 3)
	for _, op := range []uint32{Add, Remove, Promote, Demote} {
		to := map[uint32]uint32{Add: 4, Remove: 3, Promote: 3, Demote: 2}[op]
		applies(t, "by an admin", r, do(r, op, 1, to))
		for _, other := range []uint32{2, 3, 4, 5} { // another admin, one to whom it may be done, whose keys it has, a stranger
			refuses(t, "signed by another", r, slowMake(r.Hash, seedOf(other), step(op, 1, to)), api.ErrSign)
		}
		bad := Roster{Hash: r.Hash, Members: slices.Clone(r.Members)}
		bad.Members[0].Sign = api.Key{2}
		refuses(t, "under no key", bad, do(r, op, 1, to), api.ErrPoint)
		for _, k := range []api.Key{{1}, {}} {
			bad.Members[0].Sign = k
			refuses(t, "under a small key", bad, do(r, op, 1, to), api.ErrSign)
		}
	}
	applies(t, "left", r, do(r, Leave, 3, 3))
	refuses(t, "left, signed by an admin", r, slowMake(r.Hash, seedOf(1), step(Leave, 3, 3)), api.ErrSign)
	var none Roster
	refuses(t, "made, signed by another", none, slowMake(none.Hash, seedOf(2), step(Create, 1, 1)), api.ErrSign)
	for k, want := range map[api.Key]api.Errno{{2}: api.ErrPoint, {1}: api.ErrSign, {}: api.ErrSign, slowPublic(seedOf(2)): api.ErrSign} {
		s := step(Create, 1, 1)
		s.Sign = k
		refuses(t, "made, under another key", none, slowMake(none.Hash, seedOf(1), s), want)
	}
	good := do(r, Remove, 1, 3)
	applies(t, "signed for this", r, signedFor("signet change", seedOf(1), good))
	for _, label := range []string{"", "signet offer", "signet epoch", "signet chang", "signet change "} {
		refuses(t, "signed for something else", r, signedFor(label, seedOf(1), good), api.ErrSign)
	}
}

// P17.3: any keys come in with who is added; of others they mean nothing, but the hash hangs on them.
func TestKeysOfTheNew(t *testing.T) {
	r := group(5, 5, 6)
	seen := map[api.Key]bool{}
	for i, k := range append(chance(3, 3), api.Key{}, api.Key{2}, r.Members[0].Sign) {
		for j, note := range [][]byte{nil, {0}, some(16384)} {
			for _, op := range []uint32{Add, Remove, Promote, Leave} {
				s := Step{Op: op, By: 5, To: 6, Sign: k, Agree: api.Key{byte(i), 1}, Note: note}
				if op == Add {
					s.To = uint32(i + j)
				}
				if op == Leave {
					s.By = 6
				}
				behind, e := answers(t, "keys", r, slowMake(r.Hash, seedOf(s.By), s))
				if twice := op == Add && (s.To == 5 || s.To == 6); (e == api.OK) == twice {
					t.Errorf("key %d, op %d: %v", i, op, e)
				}
				if seen[behind.Hash] && e == api.OK {
					t.Error("a hash comes twice")
				}
				seen[behind.Hash] = true
			}
		}
	}
}

// P17.3: behind the last number of an epoch comes 0; a group that all have left can be made anew.
func TestEpochs(t *testing.T) {
	for _, epoch := range []uint32{0, 1, 1<<31 - 1, 1 << 31, math.MaxUint32 - 1, math.MaxUint32} {
		r := group(1, 1, 2)
		r.Epoch = epoch
		if behind := applies(t, "epoch", r, do(r, Leave, 2, 2)); behind.Epoch != epoch+1 {
			t.Errorf("behind %d: %d", epoch, behind.Epoch)
		}
	}
	var r Roster
	for i, x := range [][3]uint32{{Create, 4, 4}, {Leave, 4, 4}, {Create, 9, 9}, {Add, 9, 4}, {Promote, 9, 4}, {Remove, 4, 9}, {Remove, 4, 4}, {Create, 1, 1}} {
		r = applies(t, "anew", r, do(r, x[0], x[1], x[2]))
		if r.Epoch != uint32(i+1) {
			t.Errorf("behind change %d: %d", i, r.Epoch)
		}
	}
}

// P17.4: Fold, of lists that can be applied, wholly or in part, or not at all.
func TestFold(t *testing.T) {
	var list []api.Frame
	rosters := []Roster{{}}
	for _, x := range [][3]uint32{{Create, 7, 7}, {Add, 7, 3}, {Add, 7, 9}, {Promote, 7, 3}, {Demote, 3, 7}, {Leave, 9, 9}, {Remove, 3, 7}} {
		r := rosters[len(rosters)-1]
		f := do(r, x[0], x[1], x[2])
		list = append(list, f)
		rosters = append(rosters, applies(t, "fold", r, f))
	}
	fold := func(what string, n int, want api.Errno, list ...api.Frame) {
		t.Helper()
		if r, count, e := Fold(list...); e != want || count != n || !same(r, rosters[n]) {
			t.Errorf("%s: %+v, %d, %v; not %d, %v", what, r, count, e, n, want)
		}
	}
	for n := range len(list) + 1 {
		fold("so many", n, api.OK, list[:n]...)
		if n < len(list) {
			bad := do(rosters[n], Add, 1, 2)
			fold("a wrong one, and all others", n, api.ErrRole, slices.Insert(slices.Clone(list), n, bad)...)
			fold("no change, and all others", n, api.ErrShape, slices.Insert(slices.Clone(list), n, api.Frame{})...)
			spoilt := copied(list[n])
			spoilt.Sigs[0][3] ^= 1
			fold("one that isn't signed", n, api.ErrSign, append(slices.Clone(list[:n]), spoilt)...)
		}
		if n > 0 {
			fold("one twice", n, api.ErrEpoch, slices.Insert(slices.Clone(list), n, list[n-1])...)
			fold("without one", n-1, errnoWithout(n-1, len(list)), slices.Delete(slices.Clone(list), n-1, n)...)
		}
	}
	fold("nothing", 0, api.OK)
	fold("without the first two", 0, api.ErrEpoch, list[2:]...)
}

// errnoWithout: what Fold ends with if one is left out; behind the last one nothing is wrong.
func errnoWithout(n, all int) api.Errno {
	if n == all-1 {
		return api.OK
	}
	return api.ErrEpoch
}

// P17.2 to P17.4: long scripts of any changes, held against the model.
func TestScripts(t *testing.T) {
	r := rand.New(rand.NewSource(17))
	count := map[api.Errno]int{}
	for range 12 {
		var now Roster
		var list []api.Frame
		for range 150 {
			by, to := uint32(r.Intn(20)), uint32(r.Intn(20))
			if len(now.Members) > 0 && r.Intn(4) > 0 {
				by = now.Members[r.Intn(len(now.Members))].Name
			}
			op := uint32([]int{1, 2, 2, 2, 2, 3, 4, 5, 6}[r.Intn(9)])
			if op == Leave && r.Intn(3) > 0 || op == Create {
				to = by
			}
			f := do(now, op, by, to)
			if r.Intn(12) == 0 {
				f = slowMake(now.Hash, seedOf(to), step(op, by, to))
			}
			behind, e := answers(t, "script", now, f)
			count[e]++
			if e == api.OK {
				now = behind
				list = append(list, f)
			}
		}
		if folded, n, e := Fold(list...); e != api.OK || n != len(list) || !same(folded, now) {
			t.Errorf("folded: %d of %d, %v", n, len(list), e)
		}
	}
	for _, e := range []api.Errno{api.OK, api.ErrRole, api.ErrTwice, api.ErrMissing, api.ErrSign} {
		if count[e] < 20 {
			t.Errorf("too few of a kind: %v", count)
		}
	}
}

// P1: raw rosters, whose names don't rise or who are too many, and raw frames.
func TestRawArguments(t *testing.T) {
	r := rand.New(rand.NewSource(18))
	for range 400 {
		raw := Roster{Epoch: r.Uint32(), Hash: api.Key{1}}
		for range r.Intn(25) {
			m := somebody(uint32(r.Intn(6)), r.Intn(2) == 0)
			raw.Members = append(raw.Members, m)
		}
		before := slices.Clone(raw.Members)
		raw.Find(uint32(r.Intn(7)))
		if len(raw.Names()) != len(raw.Members) {
			t.Error("Names: another count")
		}
		for i := range 6 * 3 {
			f := do(raw, uint32(i%6)+1, uint32(r.Intn(7)), uint32(r.Intn(7)))
			if behind, e := raw.Apply(f); e != api.OK && !same(behind, Roster{}) {
				t.Errorf("a roster beside %v", e)
			}
			f.Nums = f.Nums[:r.Intn(4)]
			raw.Apply(f)
		}
		if !slices.Equal(raw.Members, before) {
			t.Fatal("the roster is changed")
		}
	}
	if _, n, e := Fold(api.Frame{}, api.Frame{Kind: 6}); n != 0 || e != api.ErrShape {
		t.Errorf("Fold of nothing's frames: %d, %v", n, e)
	}
}

// P2: a roster stays what it is, its spare room too, whatever came of it.
func TestRostersAreValues(t *testing.T) {
	r := group(1, 1, 3, 3, 5)
	whole := append(slices.Clone(r.Members), make([]Member, 20)...)
	r.Members = whole[:3]
	want := Roster{r.Epoch, r.Hash, slices.Clone(r.Members)}
	for range 2 {
		for _, x := range [][3]uint32{{Add, 1, 0}, {Add, 1, 4}, {Add, 1, 6}, {Remove, 1, 1}, {Remove, 1, 5}, {Promote, 1, 5}, {Demote, 1, 3}, {Leave, 5, 5}, {Add, 1, 1}} {
			behind, _ := answers(t, "one roster", r, do(r, x[0], x[1], x[2]))
			for i := range behind.Members[:cap(behind.Members)] {
				behind.Members[:cap(behind.Members)][i].Name = 99
			}
			if !same(r, want) || slices.ContainsFunc(whole[3:], func(m Member) bool { return m != Member{} }) {
				t.Fatalf("op %d: the roster is changed", x[0])
			}
		}
	}
	one, two := r.Names(), r.Names()
	clear(one[:cap(one)])
	if !slices.Equal(two, []uint32{1, 3, 5}) || !same(r, want) {
		t.Error("Names: answers share memory")
	}
}

// scrub: all lists of a frame, their spare room too, are filled with noughts.
func scrub(f api.Frame) {
	clear(f.Keys[:cap(f.Keys)])
	clear(f.Nums[:cap(f.Nums)])
	clear(f.Sigs[:cap(f.Sigs)])
	clear(f.Data[:cap(f.Data)])
}

// P2: notes and frames are neither changed nor kept, their spare room neither; answers share no memory.
func TestFramesAreApart(t *testing.T) {
	r, note := group(1, 1), some(40)
	s := step(Add, 1, 2)
	s.Note = note[:20]
	one, _ := r.Make(seedOf(1), s)
	two, e := r.Make(seedOf(1), s)
	want := copied(two)
	scrub(one)
	if e != api.OK || !bytes.Equal(note, some(40)) {
		t.Errorf("Make: %v, or the note is changed", e)
	}
	clear(note)
	if !alike(two, want) {
		t.Error("Make: what is answered is changed, or the note is kept")
	}
	f := copied(two)
	f.Keys, f.Nums, f.Sigs, f.Data = append(f.Keys, api.Key{1}), append(f.Nums, 2), append(f.Sigs, api.Sig{3}), append(f.Data, 4)
	room := copied(f)
	short := f
	short.Keys, short.Nums, short.Sigs, short.Data = f.Keys[:3], f.Nums[:3], f.Sigs[:1], f.Data[:20]
	behind := applies(t, "with spare room", r, short)
	again, n, _ := Fold(short)
	if !alike(f, room) || n != 0 || !same(again, Roster{}) {
		t.Error("Apply: what is handed in is changed")
	}
	kept := Roster{behind.Epoch, behind.Hash, slices.Clone(behind.Members)}
	scrub(f)
	if !same(behind, kept) {
		t.Error("Apply: what is handed in is kept")
	}
}
