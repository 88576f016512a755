package poly

import (
	"bytes"
	"encoding/hex"
	"math/big"
	"math/rand"
	"slices"
	"testing"

	"intaglio/api"
)

// raw: the bytes of digits.
func raw(t *testing.T, s string) []byte {
	t.Helper()
	b, err := hex.DecodeString(s)
	if err != nil {
		t.Fatal(err)
	}
	return b
}

// some: n bytes that differ from one another.
func some(n int) []byte {
	b := make([]byte, n)
	rand.New(rand.NewSource(int64(n))).Read(b)
	return b
}

// value: the number of bytes, the lowest first.
func value(b []byte) *big.Int {
	b = bytes.Clone(b)
	slices.Reverse(b)
	return new(big.Int).SetBytes(b)
}

// power: 2 to the n, and some more.
func power(n uint, more int64) *big.Int {
	x := new(big.Int).Lsh(big.NewInt(1), n)
	return x.Add(x, big.NewInt(more))
}

// written: a number below 2^128 as sixteen bytes, the lowest first.
func written(x *big.Int) []byte {
	b := x.FillBytes(make([]byte, 16))
	slices.Reverse(b)
	return b
}

// slow: the sum, by great numbers and the words of the promise.
func slow(key api.Key, text []byte) Tag {
	half := bytes.Clone(key[:16])
	for i := range half {
		switch i {
		case 3, 7, 11, 15:
			half[i] %= 16
		case 4, 8, 12:
			half[i] -= half[i] % 4
		}
	}
	r, sum := value(half), new(big.Int)
	for len(text) > 0 {
		n := min(16, len(text))
		sum.Add(sum, value(append(bytes.Clone(text[:n]), 1)))
		sum.Mul(sum, r).Mod(sum, power(130, -5))
		text = text[n:]
	}
	sum.Add(sum, value(key[16:]))
	return Tag(written(sum.Mod(sum, power(128, 0))))
}

// keyOf: the key of two halves.
func keyOf(r, behind []byte) api.Key {
	var key api.Key
	copy(key[:16], r)
	copy(key[16:], behind)
	return key
}

// P9.1: the examples of the chapter, and those of RFC 8439 (2.5.2 and A.3).
func TestSumOfTheStandard(t *testing.T) {
	ff, nought := "ffffffffffffffffffffffffffffffff", "00000000000000000000000000000000"
	one, two := "01000000000000000000000000000000", "02000000000000000000000000000000"
	rows := []struct{ key, text, tag string }{
		{"02000000000000000000000000000000" + "07000000000000000000000000000009", "", "07000000000000000000000000000009"},
		{"02000000000000000000000000000000" + "07000000000000000000000000000009", "03", "0d020000000000000000000000000009"},
		{"85d6be7857556d337f4452fe42d506a80103808afb0db2fd4abff6af4149f51b", hex.EncodeToString([]byte("Cryptographic Forum Research Group")), "a8061dc1305136c6c22b8baf0c0127a9"},
		{nought + nought, nought + nought + nought + nought, nought},
		{two + nought, ff, "03000000000000000000000000000000"},
		{two + ff, two, "03000000000000000000000000000000"},
		{one + nought, ff + "f0ffffffffffffffffffffffffffffff" + "11000000000000000000000000000000", "05000000000000000000000000000000"},
		{one + nought, ff + "fbfefefefefefefefefefefefefefefe" + "01010101010101010101010101010101", nought},
		{two + nought, "fdffffffffffffffffffffffffffffff", "faffffffffffffffffffffffffffffff"},
		{"01000000000000000400000000000000" + nought, "e33594d7505e43b900000000000000003394d7505e4379cd01000000000000000000000000000000000000000000000001000000000000000000000000000000", "14000000000000005500000000000000"},
		{"01000000000000000400000000000000" + nought, "e33594d7505e43b900000000000000003394d7505e4379cd010000000000000000000000000000000000000000000000", "13000000000000000000000000000000"},
	}
	for i, r := range rows {
		if tag := Sum(api.Key(raw(t, r.key)), raw(t, r.text)); hex.EncodeToString(tag[:]) != r.tag {
			t.Errorf("example %d: %x", i+1, tag)
		}
	}
}

// P9.1: texts of all lengths about a block's end, in parts cut anywhere.
func TestSumOfLengthsAndParts(t *testing.T) {
	key := api.Key(some(32))
	for size := range 100 {
		text := some(size)
		want := slow(key, text)
		var single [][]byte
		for i := range text {
			single = append(single, nil, text[i:i+1])
		}
		if Sum(key, text) != want || Sum(key, single...) != want {
			t.Fatalf("%d bytes", size)
		}
		for cut := range size + 1 {
			if Sum(key, text[:cut], []byte{}, text[cut:]) != want || Sum(key, text[:cut/2], text[cut/2:cut], text[cut:]) != want {
				t.Fatalf("%d bytes, cut at %d", size, cut)
			}
		}
	}
	if want := Tag(key[16:]); Sum(key) != want || Sum(key, nil) != want || Sum(key, []byte{}, nil) != want {
		t.Error("the sum of nothing isn't the key's second half")
	}
}

// P9.1: keys and texts of the greatest and the least bytes, and any.
func TestSumOfManyKeys(t *testing.T) {
	rnd := rand.New(rand.NewSource(9))
	edge := func(n int) []byte {
		b := make([]byte, n)
		for i := range b {
			b[i] = []byte{0, 0, 1, 3, 4, 15, 16, 127, 128, 252, 254, 255, 255, 255}[rnd.Intn(14)]
		}
		return b
	}
	for i := range 20000 {
		key, text := api.Key(edge(32)), edge(rnd.Intn(80))
		if i%3 == 0 {
			rnd.Read(key[:])
			rnd.Read(text)
		}
		if got, want := Sum(key, text), slow(key, text); got != want {
			t.Fatalf("key %x, text %x: %x, not %x", key, text, got, want)
		}
	}
	ff := bytes.Repeat([]byte{255}, 100000)
	for _, key := range []api.Key{api.Key(ff[:32]), keyOf(ff[:16], nil), keyOf([]byte{1}, ff[:16]), keyOf(raw(t, "ffffff0ffcffff0ffcffff0ffcffff0f"), ff[:16])} {
		if Sum(key, ff) != slow(key, ff) {
			t.Errorf("key %x: a long text", key)
		}
	}
}

// P9.1: each bit of the key's first half that is left out, and each that isn't.
func TestSumOfEachBitOfTheKey(t *testing.T) {
	text := some(40)
	for bit := range 256 {
		for _, key := range []api.Key{{}, api.Key(some(32)), api.Key(bytes.Repeat([]byte{255}, 32))} {
			key[bit/8] ^= 1 << (bit % 8)
			if Sum(key, text) != slow(key, text) {
				t.Errorf("bit %d of the key %x", bit, key)
			}
		}
	}
}

// P9.1: sums at which 2^130 - 5 is just reached, missed, or gone beyond. With 1 as r a sum is that of the blocks' numbers: three blocks are 3 times 2^128 and what is in them.
func TestSumAboutTheModulus(t *testing.T) {
	for _, behind := range [][]byte{nil, {1}, {5}, bytes.Repeat([]byte{255}, 16)} {
		key := keyOf([]byte{1}, behind)
		for more := int64(-40); more < 40; more++ {
			for _, split := range []int64{0, 1, 5, 1 << 25, 1 << 26, 1 << 40} {
				// The first two blocks come to 2^128 - 5 + more, the third holds nothing.
				first := power(128, -5+more-split-100)
				second := big.NewInt(split + 100)
				if first.BitLen() > 128 {
					continue
				}
				text := slices.Concat(written(first), written(second), make([]byte, 16))
				if got, want := Sum(key, text), slow(key, text); got != want {
					t.Fatalf("%d beyond the modulus (%d): %x, not %x", more, split, got, want)
				}
			}
		}
	}
	// And so once more, behind sums that went round already.
	for more := int64(-10); more < 10; more++ {
		key := keyOf([]byte{1}, nil)
		text := slices.Concat(written(power(128, -6)), make([]byte, 32), make([]byte, 16), written(power(128, -20+more)), make([]byte, 16), written(big.NewInt(10)), make([]byte, 16))
		if got, want := Sum(key, text), slow(key, text); got != want {
			t.Fatalf("%d: %x, not %x", more, got, want)
		}
	}
}

// before: some blocks of which r makes a sum that is v, but for multiples of the modulus; v may be below 0.
func before(rnd *rand.Rand, half []byte, v *big.Int) []byte {
	p, r := power(130, -5), value(half)
	want := new(big.Int).ModInverse(r, p)
	want.Mul(want, v) // what is to be there ahead of the last product
	for {
		text := make([]byte, 16*(1+rnd.Intn(5)))
		rnd.Read(text)
		sum := new(big.Int)
		for block := range slices.Chunk(text, 16) {
			sum.Add(sum, value(block)).Add(sum, power(128, 0)).Mul(sum, r)
		}
		sum.Sub(want, sum).Mod(sum, p).Sub(sum, power(128, 0))
		if sum.Sign() >= 0 && sum.BitLen() <= 128 { // the last block can hold it
			return append(text, written(sum)...)
		}
	}
}

// P9.1: sums that come out a little above 0 or below it, by themselves or with one digit of any width, behind factors great and small: there the modulus is to be taken off, or just not.
func TestSumOfLittleLeft(t *testing.T) {
	rnd := rand.New(rand.NewSource(10))
	for _, digits := range []string{"ffffff0ffcffff0ffcffff0ffcffff0f", "fbffff0ff8ffff0f00000000fcffff0f", "0300000000000000000000000000000f", "01000000000000000000000000000000", "85d6be0754556d037c44520e40d50608"} {
		half := raw(t, digits)
		for _, width := range []uint{0, 13, 26, 27, 32, 33, 39, 52, 64, 78, 104, 128, 129} {
			for _, times := range []int64{-3, -2, -1, 0, 1, 2, 3, 7} {
				for more := int64(-7); more <= 7; more++ {
					v := new(big.Int).Lsh(big.NewInt(times), width)
					text := before(rnd, half, v.Add(v, big.NewInt(more)))
					key := keyOf(half, nil)
					if got, want := Sum(key, text), slow(key, text); got != want {
						t.Fatalf("%d times 2^%d and %d more, factor %x: %x, not %x", times, width, more, half, got, want)
					}
				}
			}
		}
	}
}

// P9.1: the key's second half is added modulo 2^128, with all carries.
func TestSumGoesRound(t *testing.T) {
	for _, behind := range [][]byte{bytes.Repeat([]byte{255}, 16), bytes.Repeat([]byte{255}, 8), slices.Concat(make([]byte, 8), bytes.Repeat([]byte{255}, 8)), written(power(64, 0)), written(power(127, 0))} {
		for _, text := range [][]byte{{1}, {255}, bytes.Repeat([]byte{255}, 8), bytes.Repeat([]byte{255}, 16), written(power(127, 0)), written(power(64, -1))} {
			key := keyOf([]byte{1}, behind)
			if got, want := Sum(key, text), slow(key, text); got != want {
				t.Errorf("%x behind %x: %x, not %x", behind, text, got, want)
			}
		}
	}
}

// P2: what is handed in, its spare room too, is neither changed nor kept; what is answered hangs on it alone.
func TestArgumentsAreNotChanged(t *testing.T) {
	key := api.Key(bytes.Repeat([]byte{255}, 32))
	for _, size := range []int{1, 15, 16, 17, 33} {
		room := some(size + 100)
		before := bytes.Clone(room)
		parts := make([][]byte, 1, 3)
		parts[0] = room[:size]
		a := Sum(key, parts...)
		b := Sum(key, parts...)
		if !bytes.Equal(room, before) || len(parts[0]) != size || parts[:3][1] != nil || parts[:3][2] != nil {
			t.Errorf("%d bytes were changed", size)
		}
		if a != b || a != slow(key, room[:size]) {
			t.Errorf("%d bytes: %x, then %x", size, a, b)
		}
	}
}
