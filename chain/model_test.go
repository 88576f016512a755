package chain

import (
	"bytes"
	"crypto/ed25519"
	"crypto/hkdf"
	"crypto/sha256"
	"encoding/binary"
	"math/rand"
	"slices"
	"testing"

	"intaglio/aead"
	"intaglio/api"
	"intaglio/chacha"
)

// chance: n keys, always the same of one number.
func chance(seed int64, n int) []api.Key {
	r := rand.New(rand.NewSource(seed))
	list := make([]api.Key, n)
	for i := range list {
		r.Read(list[i][:])
	}
	return list
}

// some: n bytes that differ from one another.
func some(n int) []byte {
	b := make([]byte, n)
	rand.New(rand.NewSource(int64(n))).Read(b)
	return b
}

// slowPublic: the public key of a seed, by the library.
func slowPublic(seed api.Key) api.Key {
	return api.Key(ed25519.NewKeyFromSeed(seed[:]).Public().(ed25519.PublicKey))
}

// slowSign: the signature of some bytes, by the library.
func slowSign(seed api.Key, parts ...[]byte) api.Sig {
	return api.Sig(ed25519.Sign(ed25519.NewKeyFromSeed(seed[:]), slices.Concat(parts...)))
}

// slowNext: the next key of a place, by the library.
func slowNext(t testing.TB, p *Place) (api.Key, api.Errno) {
	t.Helper()
	if p.Index >= 16777216 {
		return api.Key{}, api.ErrFull
	}
	b, err := hkdf.Key(sha256.New, p.Key[:], p.Group[:], "signet chain", 64)
	if err != nil {
		t.Fatal(err)
	}
	p.Key = api.Key(b[32:])
	p.Index++
	return api.Key(b[:32]), api.OK
}

// slowFind: the key of a message by its number, and the chain behind it, by the words of the promise.
func slowFind(t testing.TB, w Follower, number uint32) (Follower, api.Key, api.Errno) {
	t.Helper()
	w.Held = slices.Clone(w.Held)
	if number < w.Index {
		for i, h := range w.Held {
			if h.Index == number {
				w.Held = slices.Delete(w.Held, i, i+1)
				return w, h.Key, api.OK
			}
		}
		return Follower{}, api.Key{}, api.ErrOld
	}
	if uint64(number) > uint64(w.Index)+1000 {
		return Follower{}, api.Key{}, api.ErrSkip
	}
	for w.Index < number {
		at := w.Index
		key, e := slowNext(t, &w.Place)
		if e != api.OK {
			return Follower{}, api.Key{}, e
		}
		w.Held = append(w.Held, Held{at, key})
	}
	for len(w.Held) > 1000 {
		w.Held = w.Held[1:]
	}
	key, e := slowNext(t, &w.Place)
	if e != api.OK {
		return Follower{}, api.Key{}, e
	}
	return w, key, api.OK
}

// slowFront: a message's bytes without data, with the zero signature.
func slowFront(group api.Key, epoch, number uint32) []byte {
	b := append([]byte{5}, group[:]...)
	b = binary.BigEndian.AppendUint32(b, epoch)
	b = binary.BigEndian.AppendUint32(b, number)
	return append(b, make([]byte, 64+4)...)
}

// slowBox: the box of a message's key.
func slowBox(t testing.TB, key api.Key) aead.Box {
	t.Helper()
	b, err := hkdf.Expand(sha256.New, key[:], "signet post", 44)
	if err != nil {
		t.Fatal(err)
	}
	return aead.Box{Key: api.Key(b[:32]), Nonce: chacha.Nonce(b[32:])}
}

// message: a message with some data, signed with a seed, whatever the data are.
func message(p Place, number uint32, seed api.Key, data []byte) api.Frame {
	sig := slowSign(seed, slowFront(p.Group, p.Epoch, number), data)
	return api.Frame{Kind: 5, Keys: []api.Key{p.Group}, Nums: []uint32{p.Epoch, number}, Sigs: []api.Sig{sig}, Data: data}
}

// sealed: a text as a message with a key, signed with a seed.
func sealed(t testing.TB, p Place, number uint32, key, seed api.Key, text []byte) api.Frame {
	t.Helper()
	data, e := slowBox(t, key).Seal(text, slowFront(p.Group, p.Epoch, number))
	if e != api.OK {
		t.Fatal(e)
	}
	return message(p, number, seed, data)
}

// same: are two chains alike? A list of nothing may be nil or not.
func same(a, b Follower) bool {
	return a.Place == b.Place && a.Public == b.Public && slices.Equal(a.Held, b.Held)
}

// alike: are two frames alike?
func alike(f, g api.Frame) bool {
	return f.Kind == g.Kind && slices.Equal(f.Keys, g.Keys) && slices.Equal(f.Nums, g.Nums) && slices.Equal(f.Sigs, g.Sigs) && bytes.Equal(f.Data, g.Data)
}

// copied: a frame that shares no memory with another.
func copied(f api.Frame) api.Frame {
	return api.Frame{Kind: f.Kind, Keys: slices.Clone(f.Keys), Nums: slices.Clone(f.Nums), Sigs: slices.Clone(f.Sigs), Data: bytes.Clone(f.Data)}
}

// seals: must Seal answer this chain's message?
func seals(t testing.TB, what string, s Sender, text []byte) (Sender, api.Frame) {
	t.Helper()
	want := s
	key, _ := slowNext(t, &want.Place)
	f := sealed(t, s.Place, s.Index, key, s.Seed, text)
	behind, g, e := s.Seal(text)
	if e != api.OK || behind != want {
		t.Fatalf("%s: %v, %+v, not %+v", what, e, behind, want)
	}
	if !alike(f, g) {
		t.Fatalf("%s: %+v, not %+v", what, g, f)
	}
	return behind, g
}

// refusesText: must Seal answer an error, and the same chain?
func refusesText(t testing.TB, what string, s Sender, text []byte, want api.Errno) {
	t.Helper()
	if behind, f, e := s.Seal(text); e != want || behind != s || !alike(f, api.Frame{}) {
		t.Errorf("%s: %v, not %v, or another chain or a frame beside it", what, e, want)
	}
}

// opens: must Open answer just what the model does? A message with that number is made and opened; others aren't taken.
func opens(t testing.TB, what string, w Follower, number uint32) Follower {
	t.Helper()
	want, key, e := slowFind(t, w, number)
	if e != api.OK {
		t.Fatalf("%s: the model has %v", what, e)
	}
	text := some(int(number % 50))
	f := sealed(t, w.Place, number, key, seed(), text)
	behind, got, e := w.Open(f)
	if e != api.OK || !bytes.Equal(got, text) || !same(behind, want) {
		t.Fatalf("%s: %x, %v, %d held, at %d; not %d held, at %d", what, got, e, len(behind.Held), behind.Index, len(want.Held), want.Index)
	}
	f.Data[len(f.Data)-1] ^= 1
	refuses(t, what+", another tag", w, f, api.ErrSign)
	refuses(t, what+", another tag, signed", w, message(w.Place, number, seed(), f.Data), api.ErrTag)
	return behind
}

// refuses: must Open answer an error, and the same chain?
func refuses(t testing.TB, what string, w Follower, f api.Frame, want api.Errno) {
	t.Helper()
	if behind, text, e := w.Open(f); e != want || !same(behind, w) || len(text) > 0 {
		t.Errorf("%s: %v, not %v, or another chain, or a text beside it", what, e, want)
	}
}

// refusesNumber: the same of a message with a number, whatever data it has; another's signature is told ahead of it.
func refusesNumber(t testing.TB, what string, w Follower, number uint32, want api.Errno) {
	t.Helper()
	if _, _, e := slowFind(t, w, number); e != want {
		t.Errorf("%s: the model has %v, not %v", what, e, want)
	}
	for _, n := range []int{0, 15, 16, 100} {
		refuses(t, what, w, message(w.Place, number, seed(), some(n)), want)
	}
	refuses(t, what+", signed by another", w, message(w.Place, number, api.Key{9}, some(20)), api.ErrSign)
}
