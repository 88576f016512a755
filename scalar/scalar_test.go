package scalar

import (
	"bytes"
	"math/big"
	"math/rand"
	"slices"
	"testing"

	"intaglio/api"
)

// groupOrder: L, from the document's own digits.
func groupOrder() *big.Int {
	low, _ := new(big.Int).SetString("27742317777372353535851937790883648493", 10)
	return low.Add(low, new(big.Int).Lsh(big.NewInt(1), 252))
}

// bigOf: the number of bytes, the lowest first.
func bigOf(b []byte) *big.Int {
	turned := bytes.Clone(b)
	slices.Reverse(turned)
	return new(big.Int).SetBytes(turned)
}

// bytesOf: so many bytes of a number, the lowest first.
func bytesOf(n *big.Int, size int) []byte {
	b := make([]byte, size)
	n.FillBytes(b)
	slices.Reverse(b)
	return b
}

// left: what a number leaves modulo L, as a key.
func left(n *big.Int) api.Key {
	return api.Key(bytesOf(new(big.Int).Mod(n, groupOrder()), 32))
}

// some: n bytes, always the same.
func some(n int) []byte {
	b := make([]byte, n)
	rand.New(rand.NewSource(int64(n) + 1)).Read(b)
	return b
}

// keys: about 0, about each multiple of L that a key can be, about powers of two, the greatest ones, and some by chance.
func keys() []api.Key {
	var list []api.Key
	about := func(n *big.Int) {
		for d := int64(-2); d <= 2; d++ {
			m := new(big.Int).Add(n, big.NewInt(d))
			if m.Sign() >= 0 && m.BitLen() <= 256 {
				list = append(list, api.Key(bytesOf(m, 32)))
			}
		}
	}
	for i := range int64(16) {
		about(new(big.Int).Mul(groupOrder(), big.NewInt(i)))
	}
	for _, shift := range []uint{8, 32, 124, 125, 128, 248, 252, 253, 255, 256} {
		about(new(big.Int).Lsh(big.NewInt(1), shift))
	}
	for i := range 20 {
		list = append(list, api.Key(some(32 + i)[:32]))
	}
	return list
}

// P4.1: one key, with zero bytes behind it, and in parts.
func TestReduceOfKeys(t *testing.T) {
	for _, k := range keys() {
		want := left(bigOf(k[:]))
		if got := Reduce(k[:]); got != want {
			t.Fatalf("Reduce of %x: %x, not %x", k, got, want)
		}
		if Reduce(k[:], make([]byte, 40)) != want || Reduce(k[:5], nil, k[5:6], []byte{}, k[6:]) != want {
			t.Fatalf("Reduce of %x, in parts", k)
		}
		if got := Reduce([]byte{0}, k[:]); got != left(new(big.Int).Lsh(bigOf(k[:]), 8)) {
			t.Fatalf("Reduce of %x behind a nought: %x", k, got)
		}
	}
}

// P4.1: no bytes, few, as many as a sum has, and very many.
func TestReduceOfLengths(t *testing.T) {
	if Reduce() != (api.Key{}) || Reduce(nil) != (api.Key{}) || Reduce(nil, []byte{}, nil) != (api.Key{}) {
		t.Error("Reduce of nothing")
	}
	for n := range 200 {
		for _, b := range [][]byte{some(n), bytes.Repeat([]byte{0xff}, n), make([]byte, n)} {
			want := left(bigOf(b))
			if got := Reduce(b); got != want {
				t.Fatalf("Reduce of %d bytes: %x, not %x", n, got, want)
			}
			if Reduce(b[:n/3], b[n/3:n/2], b[n/2:]) != want {
				t.Fatalf("Reduce of %d bytes, in parts", n)
			}
		}
	}
	b := some(100000)
	if Reduce(b) != left(bigOf(b)) {
		t.Error("Reduce of many bytes")
	}
	parts := make([][]byte, len(b))
	for i := range b {
		parts[i] = b[i : i+1]
	}
	if Reduce(parts...) != Reduce(b) {
		t.Error("Reduce of many parts")
	}
}

// P4.1: what is left about multiples of L, where one L too much or too little would be seen.
func TestReduceAboutMultiples(t *testing.T) {
	r := rand.New(rand.NewSource(11))
	for range 2000 {
		factor := new(big.Int).Rand(r, new(big.Int).Lsh(big.NewInt(1), uint(r.Intn(300))))
		n := factor.Mul(factor, groupOrder())
		n.Add(n, big.NewInt(int64(r.Intn(5)-2)))
		if n.Sign() < 0 {
			continue
		}
		if got := Reduce(bytesOf(n, 72)); got != left(n) {
			t.Fatalf("Reduce of %v: %x", n, got)
		}
	}
}

// P4.1: below L, and none else.
func TestCanonical(t *testing.T) {
	for _, k := range keys() {
		want := bigOf(k[:]).Cmp(groupOrder()) < 0
		if Canonical(k) != want {
			t.Errorf("Canonical of %x: %v", k, !want)
		}
		if r := Reduce(k[:]); !Canonical(r) || want != (r == k) {
			t.Errorf("Reduce of %x: %x", k, r)
		}
	}
	l := api.Key(bytesOf(groupOrder(), 32))
	for i := range 256 {
		k := l
		k[i/8] ^= 1 << (i % 8)
		if want := bigOf(k[:]).Cmp(groupOrder()) < 0; Canonical(k) != want {
			t.Errorf("Canonical of L with bit %d turned: %v", i, !want)
		}
	}
}

// P4.1: every key with every other, whether below L or not.
func TestMulAdd(t *testing.T) {
	list := keys()
	for i, a := range list {
		for j, b := range list {
			for _, c := range []api.Key{{}, list[(7*i+j)%len(list)], api.Key(bytes.Repeat([]byte{0xff}, 32))} {
				n := new(big.Int).Mul(bigOf(a[:]), bigOf(b[:]))
				n.Add(n, bigOf(c[:]))
				if got := MulAdd(a, b, c); got != left(n) {
					t.Fatalf("MulAdd of %x, %x, %x: %x, not %x", a, b, c, got, left(n))
				}
			}
		}
	}
	full := api.Key(bytes.Repeat([]byte{0xff}, 32))
	n := bigOf(full[:])
	if MulAdd(full, full, full) != left(new(big.Int).Add(new(big.Int).Mul(n, n), n)) {
		t.Error("MulAdd of the greatest")
	}
	if MulAdd(api.Key{2}, api.Key{3}, api.Key{1}) != (api.Key{7}) || MulAdd(api.Key{}, full, api.Key{5}) != (api.Key{5}) {
		t.Error("MulAdd of small ones")
	}
}

// P4.2: each first byte and each last one; all between stay as they are.
func TestClamp(t *testing.T) {
	for x := range 256 {
		k := api.Key(some(32 + x)[:32])
		k[0], k[31] = byte(x), byte(255-x)
		want := k
		want[0] = byte(x / 8 * 8)
		want[31] = byte((255-x)%64 + 64)
		if got := Clamp(k); got != want {
			t.Errorf("Clamp of %x: %x", k, got)
		}
		if Clamp(want) != want {
			t.Errorf("Clamp twice of %x", k)
		}
	}
}

// P2: the parts that are handed in, their spare room too, stay as they are; the same call answers the same.
func TestPartsAreNeitherChangedNorKept(t *testing.T) {
	room := some(300)
	before := bytes.Clone(room)
	parts := make([][]byte, 2, 4)
	parts[0], parts[1] = room[:50], room[50:130]
	k := Reduce(parts...)
	if !bytes.Equal(room, before) || len(parts[0]) != 50 || len(parts[1]) != 80 || parts[:4][2] != nil || parts[:4][3] != nil {
		t.Error("the parts were changed")
	}
	kept := k
	clear(room)
	clear(parts)
	if k != kept || Reduce(before[:130]) != k {
		t.Error("Reduce answers otherwise the second time")
	}
	l := api.Key(bytesOf(groupOrder(), 32))
	for range 2 { // no call has changed the order that they all share
		if Canonical(l) || Reduce(l[:]) != (api.Key{}) {
			t.Error("the order isn't what it was")
		}
	}
}

func BenchmarkReduce(b *testing.B) {
	text := some(64)
	for b.Loop() {
		Reduce(text)
	}
}

func BenchmarkMulAdd(b *testing.B) {
	k := api.Key(some(32))
	for b.Loop() {
		k = MulAdd(k, k, k)
	}
}
