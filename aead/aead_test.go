package aead

import (
	"bytes"
	"crypto/sha256"
	"encoding/binary"
	"encoding/hex"
	"math/rand"
	"slices"
	"testing"

	"intaglio/api"
	"intaglio/chacha"
	"intaglio/poly"
)

// raw: the bytes of digits.
func raw(t *testing.T, s string) []byte {
	t.Helper()
	b, err := hex.DecodeString(s)
	if err != nil {
		t.Fatal(err)
	}
	return b
}

// some: n bytes that differ from one another.
func some(n int) []byte {
	b := make([]byte, n)
	rand.New(rand.NewSource(int64(n))).Read(b)
	return b
}

// ramp: n bytes by a rule that a program in another language can follow.
func ramp(n, a int) []byte {
	b := make([]byte, n)
	for i := range b {
		b[i] = byte(i*a + i>>8*31 + a)
	}
	return b
}

// rampBox: a box by the same rule.
func rampBox(key, nonce int) Box {
	return Box{Key: api.Key(ramp(32, key)), Nonce: chacha.Nonce(ramp(12, nonce))}
}

// slow: the seal by the words of the promise, the bytes of the Tag all in one list.
func slow(b Box, text, bound []byte) []byte {
	mixed, _ := chacha.Mix(b.Key, b.Nonce, 1, text)
	all := bytes.Clone(bound)
	for len(all)%16 != 0 {
		all = append(all, 0)
	}
	all = append(all, mixed...)
	for len(all)%16 != 0 {
		all = append(all, 0)
	}
	all = binary.LittleEndian.AppendUint64(all, uint64(len(bound)))
	all = binary.LittleEndian.AppendUint64(all, uint64(len(mixed)))
	block := chacha.Block(b.Key, b.Nonce, 0)
	tag := poly.Sum(api.Key(block[:32]), all)
	return append(mixed, tag[:]...)
}

// P10.1 and P10.2: the example of RFC 8439 (2.8.2).
func TestTheStandard(t *testing.T) {
	b := Box{Key: api.Key(raw(t, "808182838485868788898a8b8c8d8e8f909192939495969798999a9b9c9d9e9f")), Nonce: chacha.Nonce(raw(t, "070000004041424344454647"))}
	text := []byte("Ladies and Gentlemen of the class of '99: If I could offer you only one tip for the future, sunscreen would be it.")
	bound := raw(t, "50515253c0c1c2c3c4c5c6c7")
	want := "d31a8d34648e60db7b86afbc53ef7ec2a4aded51296e08fea9e2b5a736ee62d63dbea45e8ca9671282fafb69da92728b1a71de0a9e060b2905d6a5b67ecd3b3692ddbd7f2d778b8c9803aee328091b58fab324e4fad675945585808b4831d7bc3ff4def08e4b7a9de576d26586cec64b61161ae10b594f09e26a7e902ecbd0600691"
	sealed, e := b.Seal(text, bound)
	if e != api.OK || hex.EncodeToString(sealed) != want {
		t.Errorf("Seal: %x, %v", sealed, e)
	}
	if back, e := b.Open(raw(t, want), bound); e != api.OK || !bytes.Equal(back, text) {
		t.Errorf("Open: %q, %v", back, e)
	}
}

// P10.1 and P10.2: the example of the chapter; the bytes are OpenSSL's.
func TestTheChapter(t *testing.T) {
	b := rampBox(1, 2)
	sealed, e := b.Seal([]byte("text"), []byte("to"))
	if e != api.OK || hex.EncodeToString(sealed) != "424b734a0b8a94ddb654cceb9c5ec2cd56dc845f" {
		t.Fatalf("Seal: %x, %v", sealed, e)
	}
	if text, e := b.Open(sealed, []byte("t"), []byte("o")); e != api.OK || string(text) != "text" {
		t.Errorf("Open: %q, %v", text, e)
	}
	other := b
	other.Key[31] ^= 128
	if text, e := other.Open(sealed, []byte("to")); e != api.ErrTag || text != nil {
		t.Errorf("Open with another key: %q, %v", text, e)
	}
}

// P10.1: texts and bound bytes of many lengths, summed up as OpenSSL seals them.
func TestSealsOfAnotherProgram(t *testing.T) {
	h := sha256.New()
	for _, n := range []int{0, 1, 15, 16, 17, 63, 64, 65, 127, 128, 129, 1000} {
		for _, m := range []int{0, 1, 15, 16, 17, 32, 33, 100} {
			sealed, e := rampBox(n+m+1, n*5+m).Seal(ramp(n, 11), ramp(m, 7))
			if e != api.OK {
				t.Fatalf("%d bytes, bound to %d: %v", n, m, e)
			}
			h.Write(sealed)
		}
	}
	if sum := hex.EncodeToString(h.Sum(nil)); sum != "9ebf15ab67523d18c4cac5270110686c87b330e934ce18cdc3b9a1223880eef9" {
		t.Errorf("the seals' sum is %s", sum)
	}
}

// P10.1 and P10.2: all lengths, the bound bytes cut anywhere.
func TestLengthsAndParts(t *testing.T) {
	b := Box{Key: api.Key(some(32)), Nonce: chacha.Nonce(some(12))}
	for n := range 70 {
		for m := range 35 {
			text, bound := some(n), some(m)
			want := slow(b, text, bound)
			for cut := range m + 1 {
				parts := [][]byte{bound[:cut/2], nil, bound[cut/2 : cut], {}, bound[cut:]}
				sealed, e := b.Seal(text, parts...)
				if e != api.OK || !bytes.Equal(sealed, want) {
					t.Fatalf("Seal of %d bytes, bound to %d, cut at %d: %v", n, m, cut, e)
				}
				if back, e := b.Open(want, parts...); e != api.OK || !bytes.Equal(back, text) {
					t.Fatalf("Open of %d bytes, bound to %d, cut at %d: %v", n, m, cut, e)
				}
			}
		}
	}
	sealed, e := b.Seal(nil)
	if e != api.OK || !bytes.Equal(sealed, slow(b, nil, nil)) || len(sealed) != 16 {
		t.Errorf("Seal of nothing: %x, %v", sealed, e)
	}
	if text, e := b.Open(sealed, nil, []byte{}); e != api.OK || len(text) != 0 {
		t.Errorf("Open of nothing: %x, %v", text, e)
	}
}

// P10.2: any bit that is changed, of what is sealed, bound, key or nonce.
func TestOpenOfWhatWasChanged(t *testing.T) {
	b := Box{Key: api.Key(some(32)), Nonce: chacha.Nonce(some(12))}
	bound := some(20)
	refused := func(what string, b Box, sealed, bound []byte) {
		t.Helper()
		if text, e := b.Open(sealed, bound); e != api.ErrTag || text != nil {
			t.Errorf("%s: %x, %v", what, text, e)
		}
	}
	for _, n := range []int{0, 1, 16, 37} {
		sealed, _ := b.Seal(some(n), bound)
		for bit := range 8 * len(sealed) {
			x := bytes.Clone(sealed)
			x[bit/8] ^= 1 << (bit % 8)
			refused("sealed otherwise", b, x, bound)
		}
		for bit := range 8 * len(bound) {
			x := bytes.Clone(bound)
			x[bit/8] ^= 1 << (bit % 8)
			refused("bound otherwise", b, sealed, x)
		}
		for bit := range 256 {
			x := b
			x.Key[bit/8] ^= 1 << (bit % 8)
			refused("another key", x, sealed, bound)
		}
		for bit := range 96 {
			x := b
			x.Nonce[bit/8] ^= 1 << (bit % 8)
			refused("another nonce", x, sealed, bound)
		}
	}
}

// P10.2: bytes that are put in, left out, or moved over an edge.
func TestOpenOfWhatWasMoved(t *testing.T) {
	b := Box{Key: api.Key(some(32)), Nonce: chacha.Nonce(some(12))}
	text, bound := some(37), some(20)
	sealed, _ := b.Seal(text, bound)
	mixed, tag := sealed[:37], sealed[37:]
	rows := []struct{ sealed, bound []byte }{
		{sealed[1:], bound},
		{sealed[:len(sealed)-1], bound},
		{append(bytes.Clone(sealed), 0), bound},
		{append([]byte{0}, sealed...), bound},
		{tag, bound},
		{slices.Concat(mixed, []byte{0}, tag), bound}, // a nought that filling up would put there
		{sealed, append(bytes.Clone(bound), 0)},       // the same
		{sealed, bound[:19]},
		{sealed, nil},
		{sealed, append(bytes.Clone(bound), mixed[0])},
		{sealed[1:], append(bytes.Clone(bound), mixed[0])}, // from the text to what it is bound to
		{append([]byte{bound[19]}, sealed...), bound[:19]}, // and back
		{slices.Concat(tag, mixed), bound},                 // the tag ahead
		{slices.Concat(mixed, make([]byte, 16)), bound},    // no tag
		{slices.Concat(text, tag), bound},                  // the text as it was
		{slices.Concat(mixed, tag[8:], tag[:8]), bound},
		{slices.Concat(mixed, tag, tag), bound},
		{make([]byte, 16), nil}, {make([]byte, 40), []byte{}}, // noughts
	}
	for i, r := range rows {
		if text, e := b.Open(r.sealed, r.bound); e != api.ErrTag || text != nil {
			t.Errorf("row %d: %x, %v", i, text, e)
		}
	}
}

// P10.2: too short, whatever it is bound to.
func TestOpenOfTooLittle(t *testing.T) {
	b := Box{}
	for n := range 16 {
		for _, bound := range [][]byte{nil, some(5), make([]byte, MaxText)} {
			if text, e := b.Open(some(n), bound); e != api.ErrShort || text != nil {
				t.Errorf("%d bytes: %x, %v", n, text, e)
			}
		}
	}
	if text, e := b.Open(nil); e != api.ErrShort || text != nil {
		t.Errorf("nil: %x, %v", text, e)
	}
}

// P10.1 and P10.2: as much as is taken; its sum is OpenSSL's.
func TestTheMost(t *testing.T) {
	if MaxText != 1048576 {
		t.Errorf("MaxText is %d", MaxText)
	}
	b, text, bound := rampBox(3, 5), ramp(MaxText, 11), ramp(MaxText, 7)
	sealed, e := b.Seal(text, bound[:1], nil, bound[1:])
	if sum := sha256.Sum256(sealed); e != api.OK || len(sealed) != MaxText+16 || hex.EncodeToString(sum[:]) != "4d684027d72884e1b353914f077b296fe3ceddcc22f1e9b1bf214a53e7d72dff" {
		t.Fatalf("Seal: %d bytes with the sum %x, %v", len(sealed), sum, e)
	}
	if back, e := b.Open(sealed, bound[:MaxText-1], bound[MaxText-1:]); e != api.OK || !bytes.Equal(back, text) {
		t.Errorf("Open: %d bytes, %v", len(back), e)
	}
}

// P10.1 and P10.2: too much, of the text, of one bound part, or of all together; ErrLong comes ahead of all others.
func TestTooMuch(t *testing.T) {
	b := rampBox(3, 5)
	long := make([]byte, MaxText+17)
	many := make([][]byte, 1000)
	for i := range many {
		many[i] = long
	}
	tooMany := [][][]byte{{long[:MaxText+1]}, {long[:MaxText], long[:1]}, {long[:1], nil, long[:MaxText]}, {long[:MaxText/2], long[:MaxText/2+1]}, many}
	for _, text := range [][]byte{nil, long[:5], long[:MaxText], long[:MaxText+1], long} {
		for i, bound := range tooMany {
			if sealed, e := b.Seal(text, bound...); e != api.ErrLong || sealed != nil {
				t.Errorf("Seal of %d bytes, bound %d: %d bytes, %v", len(text), i, len(sealed), e)
			}
			if text, e := b.Open(text, bound...); e != api.ErrLong || text != nil {
				t.Errorf("Open of %d bytes, bound %d: %d bytes, %v", len(text), i, len(text), e)
			}
		}
	}
	if sealed, e := b.Seal(long[:MaxText+1]); e != api.ErrLong || sealed != nil {
		t.Errorf("Seal: %d bytes, %v", len(sealed), e)
	}
	if text, e := b.Open(long); e != api.ErrLong || text != nil {
		t.Errorf("Open: %d bytes, %v", len(text), e)
	}
	if text, e := b.Open(long[:MaxText+16]); e != api.ErrTag || text != nil {
		t.Errorf("Open of as much as is taken: %d bytes, %v", len(text), e)
	}
}

// P2: what is handed in, its spare room too, is neither changed nor kept; answers share no memory.
func TestArgumentsAndAnswersAreApart(t *testing.T) {
	b := rampBox(3, 5)
	for _, size := range []int{0, 1, 16, 50} {
		room := some(size + 100)
		before := bytes.Clone(room)
		bound := make([][]byte, 1, 8)
		bound[0] = room[:size]
		one, _ := b.Seal(room[:size], bound...)
		two, _ := b.Seal(room[:size], bound...)
		want := slow(b, room[:size], room[:size])
		if !bytes.Equal(one, want) || !bytes.Equal(two, want) {
			t.Fatalf("%d bytes: %x, then %x", size, one, two)
		}
		clear(one[:cap(one)])
		sealed := append(two, 1, 2, 3, 4)[:len(two)]
		text, e := b.Open(sealed, bound...)
		again, _ := b.Open(sealed, bound...)
		clear(again[:cap(again)])
		if e != api.OK || !bytes.Equal(text, room[:size]) || !bytes.Equal(sealed, want) || !bytes.Equal(sealed[len(want):len(want)+4], []byte{1, 2, 3, 4}) {
			t.Fatalf("%d bytes: Open: %x, %v", size, text, e)
		}
		b.Open(sealed[:len(sealed)-1], bound...) // refused, and nothing is changed by it
		if !bytes.Equal(room, before) || len(bound[0]) != size || slices.ContainsFunc(bound[1:8], func(p []byte) bool { return p != nil }) {
			t.Errorf("%d bytes were changed", size)
		}
		clear(sealed)
		clear(room)
		if !bytes.Equal(text, before[:size]) {
			t.Errorf("%d bytes were kept", size)
		}
	}
}
