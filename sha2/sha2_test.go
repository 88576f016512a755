package sha2

import (
	"bytes"
	"crypto/sha256"
	"crypto/sha512"
	"encoding/hex"
	"math/rand"
	"strings"
	"testing"
)

// some: n bytes that differ from one another.
func some(n int) []byte {
	b := make([]byte, n)
	rand.New(rand.NewSource(int64(n))).Read(b)
	return b
}

// cut: bytes as parts of at most so many bytes, with an empty one behind each.
func cut(b []byte, size int) [][]byte {
	var parts [][]byte
	for len(b) > 0 {
		n := min(size, len(b))
		parts = append(parts, b[:n], nil)
		b = b[n:]
	}
	return parts
}

// P1.1: what the standard's own examples say.
func TestSumsOfTheStandard(t *testing.T) {
	rows := []struct{ text, sum256, sum512 string }{
		{"", "e3b0c44298fc1c149afbf4c8996fb92427ae41e4649b934ca495991b7852b855", "cf83e1357eefb8bdf1542850d66d8007d620e4050b5715dc83f4a921d36ce9ce47d0d13c5d85f2b0ff8318d2877eec2f63b931bd47417a81a538327af927da3e"},
		{"abc", "ba7816bf8f01cfea414140de5dae2223b00361a396177a9cb410ff61f20015ad", "ddaf35a193617abacc417349ae20413112e6fa4e89a97ea20a9eeee64b55d39a2192992a274fc1a836ba3c23a3feebbd454d4423643ce80e2a9ac94fa54ca49f"},
		{"abcdbcdecdefdefgefghfghighijhijkijkljklmklmnlmnomnopnopq", "248d6a61d20638b8e5c026930c3e6039a33ce45964ff2167f6ecedd419db06c1", "204a8fc6dda82f0a0ced7beb8e08a41657c16ef468b228a8279be331a703c33596fd15c13b1b07f9aa1d3bea57789ca031ad85c7a71dd70354ec631238ca3445"},
		{"abcdefghbcdefghicdefghijdefghijkefghijklfghijklmghijklmnhijklmnoijklmnopjklmnopqklmnopqrlmnopqrsmnopqrstnopqrstu", "cf5b16a778af8380036ce59e7b0492370b249b11e8f07a51afac45037afee9d1", "8e959b75dae313da8cf4f72814fc143f8f7779c6eb9f7fa17299aeadb6889018501d289e4900f7e4331b99dec4b5433ac7d329eeb6dd26545e96e55b874be909"},
		{strings.Repeat("a", 1000000), "cdc76e5c9914fb9281a1c7e284d73e67f1809a48a497200e046d39ccc7112cd0", "e718483d0ce769644e2e42c7bc15b4638e1f98b13b2044285632a803afa973ebde0ff244877ea60a4cb0432ce577c31beb009c5c2c49aa2e4eadb217ad8cc09b"},
	}
	for _, r := range rows {
		if k := Sum256([]byte(r.text)); hex.EncodeToString(k[:]) != r.sum256 {
			t.Errorf("Sum256 of %d bytes: %x", len(r.text), k)
		}
		if k := Sum512([]byte(r.text)); hex.EncodeToString(k[:]) != r.sum512 {
			t.Errorf("Sum512 of %d bytes: %x", len(r.text), k)
		}
	}
}

// P1.1: every length about the ends of blocks and of their last fields, in parts of any size.
func TestSumsOfParts(t *testing.T) {
	for n := range 520 {
		b := some(n)
		want256, want512 := sha256.Sum256(b), sha512.Sum512(b)
		for _, size := range []int{1, 7, 63, 64, 65, 127, 128, 129, 520} {
			parts := cut(b, size)
			if k := Sum256(parts...); k != want256 {
				t.Fatalf("Sum256 of %d bytes, cut by %d: %x, not %x", n, size, k, want256)
			}
			if k := Sum512(parts...); k != want512 {
				t.Fatalf("Sum512 of %d bytes, cut by %d: %x, not %x", n, size, k, want512)
			}
		}
	}
}

// P1.1: bytes of one kind, so that each bit of a word is carried over.
func TestSumsOfOneByte(t *testing.T) {
	for x := range 256 {
		b := bytes.Repeat([]byte{byte(x)}, 300)
		if Sum256(b) != sha256.Sum256(b) || Sum512(b) != sha512.Sum512(b) {
			t.Errorf("300 times %d", x)
		}
	}
}

// P1.1: no parts, nil parts and empty parts are all no bytes.
func TestSumsOfNothing(t *testing.T) {
	if k := sha256.Sum256(nil); Sum256() != k || Sum256(nil) != k || Sum256(nil, []byte{}, nil) != k || New256().Sum() != k {
		t.Error("SHA-256 of nothing")
	}
	if k := sha512.Sum512(nil); Sum512() != k || Sum512(nil) != k || Sum512(nil, []byte{}, nil) != k || New512().Sum() != k {
		t.Error("SHA-512 of nothing")
	}
}

// P1.2: behind each Write, Count and Sum tell all that came, and Sum, called any number of times, changes nothing.
func TestHash256GrowsBehindASum(t *testing.T) {
	h := New256()
	if h.Count() != 0 {
		t.Errorf("Count at first: %d", h.Count())
	}
	var all []byte
	for n := range 200 {
		b := some(n)
		h.Write(b[:n/3], nil, b[n/3:])
		all = append(all, b...)
		if h.Count() != len(all) {
			t.Fatalf("Count: %d, not %d", h.Count(), len(all))
		}
		if want := sha256.Sum256(all); h.Sum() != want || h.Sum() != want || h.Count() != len(all) {
			t.Fatalf("Sum of %d bytes", len(all))
		}
	}
	h.Write()
	if h.Count() != len(all) || h.Sum() != sha256.Sum256(all) {
		t.Error("Write of nothing")
	}
}

// P1.2: the same of SHA-512.
func TestHash512GrowsBehindASum(t *testing.T) {
	h := New512()
	if h.Count() != 0 {
		t.Errorf("Count at first: %d", h.Count())
	}
	var all []byte
	for n := range 300 {
		b := some(n)
		h.Write(b[:n/3], nil, b[n/3:])
		all = append(all, b...)
		if h.Count() != len(all) {
			t.Fatalf("Count: %d, not %d", h.Count(), len(all))
		}
		if want := sha512.Sum512(all); h.Sum() != want || h.Sum() != want || h.Count() != len(all) {
			t.Fatalf("Sum of %d bytes", len(all))
		}
	}
	h.Write()
	if h.Count() != len(all) || h.Sum() != sha512.Sum512(all) {
		t.Error("Write of nothing")
	}
}

// P1.2: two hashes know nothing of one another.
func TestHashesAreApart(t *testing.T) {
	a, b := New256(), New256()
	a.Write([]byte("a"))
	b.Write([]byte("b"))
	if a.Sum() != sha256.Sum256([]byte("a")) || b.Sum() != sha256.Sum256([]byte("b")) {
		t.Error("two of SHA-256")
	}
	c, d := New512(), New512()
	c.Write([]byte("c"))
	d.Write([]byte("d"))
	if c.Sum() != sha512.Sum512([]byte("c")) || d.Sum() != sha512.Sum512([]byte("d")) {
		t.Error("two of SHA-512")
	}
}

// P2: what is handed in, its spare room too, is neither changed nor kept.
func TestPartsAreNeitherChangedNorKept(t *testing.T) {
	for _, n := range []int{1, 63, 64, 65, 127, 128, 129, 300} {
		room := some(n + 200)
		before := bytes.Clone(room)
		parts := make([][]byte, 2, 4)
		parts[0], parts[1] = room[:n/2], room[n/2:n]
		want256, want512 := sha256.Sum256(before[:n]), sha512.Sum512(before[:n])
		h, g := New256(), New512()
		h.Write(parts...)
		g.Write(parts...)
		if Sum256(parts...) != want256 || Sum512(parts...) != want512 {
			t.Errorf("sums of %d bytes", n)
		}
		if !bytes.Equal(room, before) || len(parts[0]) != n/2 || len(parts[1]) != n-n/2 || parts[:4][2] != nil || parts[:4][3] != nil {
			t.Errorf("the parts of %d bytes were changed", n)
		}
		clear(room)
		clear(parts)
		if h.Sum() != want256 || g.Sum() != want512 {
			t.Errorf("the parts of %d bytes were kept", n)
		}
	}
}
