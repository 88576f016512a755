package roster

import (
	"bytes"
	"crypto/ed25519"
	"crypto/sha256"
	"encoding/binary"
	"math/rand"
	"slices"
	"testing"

	"intaglio/api"
	"intaglio/sign"
)

// chance: n keys, always the same of one number.
func chance(seed int64, n int) []api.Key {
	r := rand.New(rand.NewSource(seed))
	list := make([]api.Key, n)
	for i := range list {
		r.Read(list[i][:])
	}
	return list
}

// some: n bytes that differ from one another.
func some(n int) []byte {
	b := make([]byte, n)
	rand.New(rand.NewSource(int64(n))).Read(b)
	return b
}

// seedOf: somebody's seed.
func seedOf(name uint32) api.Key { return chance(int64(name)+100, 1)[0] }

// slowPublic: the public key of a seed, by the library.
func slowPublic(seed api.Key) api.Key {
	return api.Key(ed25519.NewKeyFromSeed(seed[:]).Public().(ed25519.PublicKey))
}

// somebody: a member, with keys of their own.
func somebody(name uint32, admin bool) Member {
	return Member{Name: name, Admin: admin, Sign: slowPublic(seedOf(name)), Agree: seedOf(^name)}
}

// group: a roster of some members; who is named twice is an admin.
func group(names ...uint32) Roster {
	r := Roster{Epoch: 7, Hash: chance(1, 1)[0]}
	for i, name := range names {
		if i == 0 || names[i-1] != name {
			r.Members = append(r.Members, somebody(name, i+1 < len(names) && names[i+1] == name))
		}
	}
	return r
}

// slowBytes: a change's bytes by the words of layer 11.
func slowBytes(f api.Frame) []byte {
	b := bytes.NewBuffer([]byte{6})
	for _, part := range []any{f.Keys, f.Nums, f.Sigs, uint32(len(f.Data)), f.Data} {
		binary.Write(b, binary.BigEndian, part)
	}
	return b.Bytes()
}

// signedFor: a change with the signature of a seed for some purpose, by the library.
func signedFor(label string, seed api.Key, f api.Frame) api.Frame {
	f.Sigs = []api.Sig{{}}
	text := append([]byte(label), slowBytes(f)...)
	f.Sigs = []api.Sig{api.Sig(ed25519.Sign(ed25519.NewKeyFromSeed(seed[:]), text))}
	return f
}

// signed: a change as it is to be signed.
func signed(seed api.Key, f api.Frame) api.Frame { return signedFor("signet change", seed, f) }

// slowMake: a step as a signed frame.
func slowMake(hash, seed api.Key, s Step) api.Frame {
	return signed(seed, api.Frame{Kind: 6, Keys: []api.Key{hash, s.Sign, s.Agree}, Nums: []uint32{s.Op, s.By, s.To}, Data: s.Note})
}

// slowFind: a member; nil, if there is none.
func slowFind(r Roster, name uint32) *Member {
	for _, m := range r.Members {
		if m.Name == name {
			return &m
		}
	}
	return nil
}

// slowMay: whether a step may be done, by the words of the promise, one line a reason.
func slowMay(r Roster, s Step) api.Errno {
	by, to, admins := slowFind(r, s.By), slowFind(r, s.To), 0
	for _, m := range r.Members {
		if m.Admin {
			admins++
		}
	}
	only := to != nil && to.Admin && admins == 1
	for _, reason := range []struct {
		ops    []uint32
		broken bool
		e      api.Errno
	}{
		{[]uint32{1}, len(r.Members) > 0, api.ErrTwice},
		{[]uint32{1}, s.By != s.To, api.ErrRole},
		{[]uint32{2, 3, 4, 5, 6}, by == nil, api.ErrRole},
		{[]uint32{6}, s.By != s.To, api.ErrRole},
		{[]uint32{2, 3, 4, 5}, by == nil || !by.Admin, api.ErrRole},
		{[]uint32{2}, to != nil, api.ErrTwice},
		{[]uint32{2}, len(r.Members) >= 16, api.ErrFull},
		{[]uint32{3, 4, 5, 6}, to == nil, api.ErrMissing},
		{[]uint32{4}, to != nil && to.Admin, api.ErrTwice},
		{[]uint32{5}, to != nil && !to.Admin, api.ErrTwice},
		{[]uint32{5}, only, api.ErrRole},
		{[]uint32{3, 6}, only && len(r.Members) > 1, api.ErrRole},
	} {
		if slices.Contains(reason.ops, s.Op) && reason.broken {
			return reason.e
		}
	}
	return api.OK
}

// slowMembers: the members behind a step that may be done.
func slowMembers(r Roster, s Step) []Member {
	var list []Member
	for _, m := range r.Members {
		if m.Name == s.To {
			switch s.Op {
			case 3, 6:
				continue
			case 4:
				m.Admin = true
			case 5:
				m.Admin = false
			}
		}
		list = append(list, m)
	}
	if s.Op == 1 || s.Op == 2 {
		list = append(list, Member{s.To, s.Op == 1, s.Sign, s.Agree})
		slices.SortFunc(list, func(a, b Member) int { return int(int64(a.Name) - int64(b.Name)) })
	}
	return list
}

// slowApply: the roster behind a change, of the right shape, by the words of the promise.
func slowApply(r Roster, f api.Frame) (Roster, api.Errno) {
	s := Step{Op: f.Nums[0], By: f.Nums[1], To: f.Nums[2], Sign: f.Keys[1], Agree: f.Keys[2]}
	if s.Op == 0 || s.Op > 6 {
		return Roster{}, api.ErrShape
	}
	if f.Keys[0] != r.Hash {
		return Roster{}, api.ErrEpoch
	}
	if e := slowMay(r, s); e != api.OK {
		return Roster{}, e
	}
	public := s.Sign
	if by := slowFind(r, s.By); by != nil {
		public = by.Sign
	}
	bare := f
	bare.Sigs = make([]api.Sig, 1)
	if e := sign.Check(public, f.Sigs[0], []byte("signet change"), slowBytes(bare)); e != api.OK {
		return Roster{}, e
	}
	hash := sha256.Sum256(append([]byte("signet epoch"), slowBytes(f)...))
	return Roster{r.Epoch + 1, hash, slowMembers(r, s)}, api.OK
}

// same: are two rosters alike? A list of nothing may be nil or not.
func same(a, b Roster) bool {
	return a.Epoch == b.Epoch && a.Hash == b.Hash && slices.Equal(a.Members, b.Members)
}

// alike: are two frames alike?
func alike(f, g api.Frame) bool {
	return f.Kind == g.Kind && slices.Equal(f.Keys, g.Keys) && slices.Equal(f.Nums, g.Nums) && slices.Equal(f.Sigs, g.Sigs) && bytes.Equal(f.Data, g.Data)
}

// copied: a frame that shares no memory with another.
func copied(f api.Frame) api.Frame {
	return api.Frame{Kind: f.Kind, Keys: slices.Clone(f.Keys), Nums: slices.Clone(f.Nums), Sigs: slices.Clone(f.Sigs), Data: bytes.Clone(f.Data)}
}

// answers: must Apply answer just what the model does? How it ended is answered too.
func answers(t testing.TB, what string, r Roster, f api.Frame) (Roster, api.Errno) {
	t.Helper()
	want, wantE := slowApply(r, f)
	behind, e := r.Apply(f)
	if e != wantE || !same(behind, want) {
		t.Fatalf("%s: %v, %+v, not %v, %+v", what, e, behind, wantE, want)
	}
	return behind, e
}

// applies: must Apply answer just the model's roster?
func applies(t testing.TB, what string, r Roster, f api.Frame) Roster {
	t.Helper()
	behind, e := answers(t, what, r, f)
	if e != api.OK {
		t.Fatalf("%s: %v", what, e)
	}
	return behind
}

// refuses: must Apply answer just that error?
func refuses(t testing.TB, what string, r Roster, f api.Frame, want api.Errno) {
	t.Helper()
	if behind, e := r.Apply(f); e != want || !same(behind, Roster{}) {
		t.Errorf("%s: %v, not %v, or a roster beside it", what, e, want)
	}
}
