package ratchet

import (
	"bytes"
	"crypto/ecdh"
	"crypto/hkdf"
	"crypto/hmac"
	"crypto/sha256"
	"encoding/binary"
	"math/rand"
	"reflect"
	"slices"
	"testing"

	"intaglio/aead"
	"intaglio/api"
	"intaglio/chacha"
)

// chance: n keys, always the same of one number.
func chance(seed int64, n int) []api.Key {
	r := rand.New(rand.NewSource(seed))
	list := make([]api.Key, n)
	for i := range list {
		r.Read(list[i][:])
	}
	return list
}

// some: n bytes that differ from one another.
func some(n int) []byte {
	b := make([]byte, n)
	rand.New(rand.NewSource(int64(n))).Read(b)
	return b
}

// slowAgree: what two keys agree on, by the library; nothing, if that is the zero key.
func slowAgree(t testing.TB, own, theirs api.Key) []byte {
	t.Helper()
	k, err := ecdh.X25519().NewPrivateKey(own[:])
	if err != nil {
		t.Fatal(err)
	}
	p, err := ecdh.X25519().NewPublicKey(theirs[:])
	if err != nil {
		t.Fatal(err)
	}
	secret, err := k.ECDH(p)
	if err != nil {
		return nil
	}
	return secret
}

// slowPublic: the public key of one's own, by the library.
func slowPublic(t testing.TB, own api.Key) api.Key {
	t.Helper()
	k, err := ecdh.X25519().NewPrivateKey(own[:])
	if err != nil {
		t.Fatal(err)
	}
	return api.Key(k.PublicKey().Bytes())
}

// slowKeys: two keys, by the library.
func slowKeys(t testing.TB, salt, secret []byte, info string) (api.Key, api.Key) {
	t.Helper()
	b, err := hkdf.Key(sha256.New, secret, salt, info, 64)
	if err != nil {
		t.Fatal(err)
	}
	return api.Key(b[:32]), api.Key(b[32:])
}

// slowSum: the sum with a key of one byte, by the library.
func slowSum(key api.Key, b byte) api.Key {
	h := hmac.New(sha256.New, key[:])
	h.Write([]byte{b})
	return api.Key(h.Sum(nil))
}

// slowNext: the next key of a side.
func slowNext(d *Side) (api.Key, api.Errno) {
	if d.Count >= 16777216 {
		return api.Key{}, api.ErrFull
	}
	key := slowSum(d.Chain, 1)
	d.Chain = slowSum(d.Chain, 2)
	d.Count++
	return key, api.OK
}

// slowTurn: the root turns to a side.
func slowTurn(t testing.TB, s *State, d *Side) api.Errno {
	secret := slowAgree(t, s.Own, s.Theirs)
	if secret == nil {
		return api.ErrZero
	}
	*d = Side{Open: true}
	s.Root, d.Chain = slowKeys(t, s.Root[:], secret, "signet root")
	return api.OK
}

// slowSkip: to skip up to a number.
func slowSkip(s *State, to uint32) api.Errno {
	if !s.Got.Open {
		return api.OK
	}
	if uint64(to) > uint64(s.Got.Count)+64 {
		return api.ErrSkip
	}
	for s.Got.Count < to {
		number := s.Got.Count
		key, e := slowNext(&s.Got)
		if e != api.OK {
			return e
		}
		s.Held = append(s.Held, Held{s.Theirs, number, key})
	}
	for len(s.Held) > 128 {
		s.Held = s.Held[1:]
	}
	return api.OK
}

// slowFind: a letter's key, and the state behind it, by the words of the promises.
func slowFind(t testing.TB, s State, l letter, fresh api.Key) (State, api.Key, api.Errno) {
	s.Held = slices.Clone(s.Held)
	for i, h := range s.Held {
		if h.Theirs == l.key && h.Number == l.number {
			s.Held = slices.Delete(s.Held, i, i+1)
			return s, h.Key, api.OK
		}
	}
	if !s.Got.Open || s.Theirs != l.key {
		if e := slowSkip(&s, l.before); e != api.OK {
			return State{}, api.Key{}, e
		}
		s.Theirs = l.key
		s.Before = s.Send.Count
		if e := slowTurn(t, &s, &s.Got); e != api.OK {
			return State{}, api.Key{}, e
		}
		s.Own = fresh
		if e := slowTurn(t, &s, &s.Send); e != api.OK {
			return State{}, api.Key{}, e
		}
	}
	if l.number < s.Got.Count {
		return State{}, api.Key{}, api.ErrOld
	}
	if e := slowSkip(&s, l.number); e != api.OK {
		return State{}, api.Key{}, e
	}
	key, e := slowNext(&s.Got)
	if e != api.OK {
		return State{}, api.Key{}, e
	}
	return s, key, api.OK
}

// slowFront: a letter's bytes without data.
func slowFront(l letter) []byte {
	b := append([]byte{3}, l.key[:]...)
	b = binary.BigEndian.AppendUint32(b, l.before)
	b = binary.BigEndian.AppendUint32(b, l.number)
	return append(b, 0, 0, 0, 0)
}

// slowBox: the box of a letter's key.
func slowBox(t testing.TB, key api.Key) aead.Box {
	first, second := slowKeys(t, nil, key[:], "signet letter")
	return aead.Box{Key: first, Nonce: chacha.Nonce(second[:12])}
}

// framed: a letter with some data.
func framed(l letter, data []byte) api.Frame {
	return api.Frame{Kind: 3, Keys: []api.Key{l.key}, Nums: []uint32{l.before, l.number}, Data: data}
}

// sealed: a text as a letter with a key.
func sealed(t testing.TB, l letter, key, bound api.Key, text []byte) api.Frame {
	t.Helper()
	data, e := slowBox(t, key).Seal(text, bound[:], slowFront(l))
	if e != api.OK {
		t.Fatal(e)
	}
	return framed(l, data)
}

// same: are two states alike? A list of nothing may be nil or not.
func same(a, b State) bool {
	if !slices.Equal(a.Held, b.Held) {
		return false
	}
	a.Held, b.Held = nil, nil
	return reflect.DeepEqual(a, b)
}

// nothing: is a frame the zero one?
func nothing(f api.Frame) bool {
	return f.Kind == 0 && len(f.Keys)+len(f.Nums)+len(f.Sigs)+len(f.Data) == 0
}

// seals: must Seal answer a letter, and is it this state's?
func seals(t testing.TB, what string, s State, text []byte) (State, api.Frame) {
	t.Helper()
	want := s
	key, _ := slowNext(&want.Send)
	f := sealed(t, letter{slowPublic(t, s.Own), s.Before, s.Send.Count}, key, s.Bound, text)
	behind, g, e := s.Seal(text)
	if e != api.OK || !same(behind, want) {
		t.Fatalf("%s: %v, %+v, not %+v", what, e, behind, want)
	}
	if g.Kind != 3 || !slices.Equal(g.Keys, f.Keys) || !slices.Equal(g.Nums, f.Nums) || len(g.Sigs) > 0 || !bytes.Equal(g.Data, f.Data) {
		t.Fatalf("%s: %+v, not %+v", what, g, f)
	}
	return behind, g
}

// refusesText: must Seal answer an error, and the same state?
func refusesText(t testing.TB, what string, s State, text []byte, want api.Errno) {
	t.Helper()
	if behind, f, e := s.Seal(text); e != want || !same(behind, s) || !nothing(f) {
		t.Errorf("%s: %v, not %v, or another state or frame beside it", what, e, want)
	}
}

// opens: must Open answer just what the model does? A letter with that key is made and opened; others aren't taken.
func opens(t testing.TB, what string, s State, l letter, fresh api.Key) State {
	t.Helper()
	want, key, e := slowFind(t, s, l, fresh)
	if e != api.OK {
		t.Fatalf("%s: the model has %v", what, e)
	}
	text := some(int(l.number % 50))
	f := sealed(t, l, key, s.Bound, text)
	behind, got, e := s.Open(f, fresh)
	if e != api.OK || !bytes.Equal(got, text) || !same(behind, want) {
		t.Fatalf("%s: %x, %v, %+v, not %+v", what, got, e, behind, want)
	}
	f.Data[len(f.Data)-1] ^= 1
	refuses(t, what+", another tag", s, f, fresh, api.ErrTag)
	f.Data = f.Data[:15]
	refuses(t, what+", too short", s, f, fresh, api.ErrShort)
	return behind
}

// refuses: must Open answer an error, and the same state?
func refuses(t testing.TB, what string, s State, f api.Frame, fresh api.Key, want api.Errno) {
	t.Helper()
	if behind, text, e := s.Open(f, fresh); e != want || !same(behind, s) || len(text) > 0 {
		t.Errorf("%s: %v, not %v, or another state, or a text beside it", what, e, want)
	}
}

// refusesLetter: the same of a letter, whatever data it has.
func refusesLetter(t testing.TB, what string, s State, l letter, want api.Errno) {
	t.Helper()
	fresh := api.Key{200}
	if _, _, e := slowFind(t, s, l, fresh); e != want {
		t.Errorf("%s: the model has %v, not %v", what, e, want)
	}
	for _, n := range []int{0, 15, 16, 100, 16384} {
		refuses(t, what, s, framed(l, make([]byte, n)), fresh, want)
	}
	refuses(t, what+", too much data", s, framed(l, make([]byte, 16385)), fresh, api.ErrShape)
}
