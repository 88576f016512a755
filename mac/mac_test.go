package mac

import (
	"bytes"
	"crypto/hkdf"
	"crypto/hmac"
	"crypto/sha256"
	"encoding/hex"
	"math"
	"math/rand"
	"testing"

	"intaglio/api"
)

// raw: the bytes of digits.
func raw(t *testing.T, s string) []byte {
	t.Helper()
	b, err := hex.DecodeString(s)
	if err != nil {
		t.Fatal(err)
	}
	return b
}

// some: n bytes that differ from one another.
func some(n int) []byte {
	b := make([]byte, n)
	rand.New(rand.NewSource(int64(n))).Read(b)
	return b
}

// standard: the sum with a key as Go's own library makes it.
func standard(key, text []byte) api.Key {
	h := hmac.New(sha256.New, key)
	h.Write(text)
	return api.Key(h.Sum(nil))
}

// P2.1: the examples of RFC 4231.
func TestSumOfTheStandard(t *testing.T) {
	rows := []struct {
		key, text []byte
		sum       string
	}{
		{bytes.Repeat([]byte{0x0b}, 20), []byte("Hi There"), "b0344c61d8db38535ca8afceaf0bf12b881dc200c9833da726e9376c2e32cff7"},
		{[]byte("Jefe"), []byte("what do ya want for nothing?"), "5bdcc146bf60754e6a042426089575c75a003f089d2739839dec58b964ec3843"},
		{bytes.Repeat([]byte{0xaa}, 20), bytes.Repeat([]byte{0xdd}, 50), "773ea91e36800e46854db8ebd09181a72959098b3ef8c122d9635514ced565fe"},
		{raw(t, "0102030405060708090a0b0c0d0e0f10111213141516171819"), bytes.Repeat([]byte{0xcd}, 50), "82558a389a443c0ea4cc819899f2083a85f0faa3e578f8077a2e3ff46729665b"},
		{bytes.Repeat([]byte{0xaa}, 131), []byte("Test Using Larger Than Block-Size Key - Hash Key First"), "60e431591ee0b67f0d8a26aacbf5b77f8e0bc6213728c5140546040f0ee37f54"},
		{bytes.Repeat([]byte{0xaa}, 131), []byte("This is a test using a larger than block-size key and a larger than block-size data. The key needs to be hashed before being used by the HMAC algorithm."), "9b09ffa71b942fcb27635fbcd5b0e944bfdc63644f0713938a7f51535c3a35e2"},
	}
	for i, r := range rows {
		if k := Sum(r.key, r.text); hex.EncodeToString(k[:]) != r.sum {
			t.Errorf("example %d: %x", i+1, k)
		}
	}
}

// P2.1: keys and texts of every length about a block's end.
func TestSumOfLengths(t *testing.T) {
	for n := range 140 {
		key := some(n)
		for _, size := range []int{0, 1, 55, 56, 63, 64, 65, 200} {
			text := some(size)
			want := standard(key, text)
			if Sum(key, text) != want || Sum(key, text[:size/2], nil, text[size/2:]) != want {
				t.Fatalf("a key of %d bytes, a text of %d", n, size)
			}
		}
	}
	if want := standard(nil, nil); Sum(nil) != want || Sum([]byte{}, nil, []byte{}) != want || New(nil).Sum() != want {
		t.Error("no key and no text")
	}
}

// P2.1: more may come behind a Sum; Count has the key's block too.
func TestMacGrowsBehindASum(t *testing.T) {
	for _, n := range []int{0, 5, 64, 65} {
		key := some(n)
		m := New(key)
		var all []byte
		for size := range 150 {
			if want := standard(key, all); m.Sum() != want || m.Sum() != want {
				t.Fatalf("a key of %d bytes: the sum of %d bytes", n, len(all))
			}
			if m.Count() != 64+len(all) {
				t.Fatalf("a key of %d bytes: Count %d behind %d bytes", n, m.Count(), len(all))
			}
			b := some(size)
			m.Write(b[:size/2], nil, b[size/2:])
			all = append(all, b...)
		}
	}
}

// P2.1: two sums that are being made know nothing of one another.
func TestMacsAreApart(t *testing.T) {
	a, b := New([]byte("k")), New([]byte("l"))
	a.Write([]byte("a"))
	b.Write([]byte("b"))
	if a.Sum() != standard([]byte("k"), []byte("a")) || b.Sum() != standard([]byte("l"), []byte("b")) {
		t.Error("two sums were mixed")
	}
}

// P2.3: the same bytes, and no others.
func TestEqual(t *testing.T) {
	for _, n := range []int{0, 1, 2, 31, 32, 33, 300} {
		a := some(n)
		b := bytes.Clone(a)
		if !Equal(a, b) || !Equal(a, a) {
			t.Errorf("%d bytes aren't the same", n)
		}
		for i := range b {
			for bit := range 8 {
				b[i] ^= 1 << bit
				if Equal(a, b) || Equal(b, a) {
					t.Errorf("%d bytes, of which %d differs by bit %d, are the same", n, i, bit)
				}
				b[i] ^= 1 << bit
			}
		}
		if longer := append(b, 0); Equal(a, longer) || Equal(longer, a) {
			t.Errorf("%d bytes and one more are the same", n)
		}
	}
	if !Equal(nil, nil) || !Equal(nil, []byte{}) || !Equal([]byte{}, nil) || Equal(nil, []byte{0}) || Equal([]byte{0}, nil) {
		t.Error("no bytes")
	}
	// Two differences that would be nought together.
	if Equal([]byte{1, 1}, []byte{2, 2}) || Equal([]byte{1, 2}, []byte{2, 1}) {
		t.Error("two differences took one another away")
	}
}

// P2.2: the examples of RFC 5869.
func TestKeysOfTheStandard(t *testing.T) {
	upTo := func(first, n int) []byte {
		b := make([]byte, n)
		for i := range b {
			b[i] = byte(first + i)
		}
		return b
	}
	rows := []struct {
		secret, salt, info []byte
		n                  int
		key, made          string
	}{
		{bytes.Repeat([]byte{0x0b}, 22), upTo(0, 13), upTo(0xf0, 10), 42, "077709362c2e32df0ddc3f0dc47bba6390b6c73bb50f9c3122ec844ad7c2b3e5", "3cb25f25faacd57a90434f64d0362f2a2d2d0a90cf1a5a4c5db02d56ecc4c5bf34007208d5b887185865"},
		{upTo(0, 80), upTo(0x60, 80), upTo(0xb0, 80), 82, "06a6b88c5853361a06104c9ceb35b45cef760014904671014a193f40c15fc244", "b11e398dc80327a1c8e7f78c596a49344f012eda2d4efad8a050cc4c19afa97c59045a99cac7827271cb41c65e590e09da3275600c2f09b8367793a9aca3db71cc30c58179ec3e87c14c01d5c1f3434f1d87"},
		{bytes.Repeat([]byte{0x0b}, 22), nil, nil, 42, "19ef24a32c717b167f33a91d6f648bdf96596776afdb6377ac434c1c293ccb04", "8da4e775a563c18f715f802a063c5a31b8a11f5c5ee1879ec3454e5f3c738d2d9d201395faa4b61a96c8"},
	}
	for i, r := range rows {
		k := Extract(r.salt, r.secret[:5], nil, r.secret[5:])
		if hex.EncodeToString(k[:]) != r.key || Extract(r.salt, r.secret) != k || Sum(r.salt, r.secret) != k {
			t.Errorf("example %d: Extract: %x", i+1, k)
		}
		b, e := Expand(k, r.n, r.info[:len(r.info)/2], nil, r.info[len(r.info)/2:])
		if e != api.OK || hex.EncodeToString(b) != r.made {
			t.Errorf("example %d: Expand: %x, %v", i+1, b, e)
		}
	}
}

// P2.2: from nothing to as much as there is.
func TestExpandOfLengths(t *testing.T) {
	key := api.Key(some(32))
	for _, n := range []int{0, 1, 31, 32, 33, 63, 64, 65, 1000, 8128, 8129, 8159, 8160} {
		want, err := hkdf.Expand(sha256.New, key[:], "what for", n)
		if err != nil {
			t.Fatal(err)
		}
		b, e := Expand(key, n, []byte("what"), []byte(" for"))
		if e != api.OK || !bytes.Equal(b, want) {
			t.Errorf("%d bytes: %v", n, e)
		}
		if cap(b) != n {
			t.Errorf("%d bytes have room for %d", n, cap(b))
		}
	}
	if MaxKeys != 8160 {
		t.Errorf("MaxKeys is %d", MaxKeys)
	}
}

// P2.2 and P1: numbers that aren't taken.
func TestExpandOfWrongLengths(t *testing.T) {
	for _, n := range []int{math.MinInt, -8160, -1, 8161, 8192, 1 << 32, math.MaxInt} {
		if b, e := Expand(api.Key{}, n, []byte("x")); e != api.ErrRange || len(b) != 0 {
			t.Errorf("%d bytes: %d bytes, %v", n, len(b), e)
		}
	}
}

// P2.2: keys are what Expand makes of what Extract makes, 32 bytes each.
func TestKeys(t *testing.T) {
	salt, secret, info := some(13), some(50), "\xff what \x00 for"
	all, err := hkdf.Key(sha256.New, secret, salt, info, 8160)
	if err != nil {
		t.Fatal(err)
	}
	for _, count := range []int{0, 1, 2, 3, 100, 254, 255} {
		keys, e := Keys(salt, secret, info, count)
		if e != api.OK || len(keys) != count {
			t.Fatalf("%d keys: %d, %v", count, len(keys), e)
		}
		for i, k := range keys {
			if !bytes.Equal(k[:], all[32*i:32*i+32]) {
				t.Errorf("%d keys: key %d is %x", count, i, k)
			}
		}
	}
	keys, e := Keys(nil, nil, "", 1)
	if want, _ := Expand(Extract(nil), 32); e != api.OK || len(keys) != 1 || !bytes.Equal(keys[0][:], want) {
		t.Errorf("a key of nothing: %x, %v", keys, e)
	}
}

// P2.2 and P1: numbers that aren't taken, and some that thirty-two times would be.
func TestKeysOfWrongCounts(t *testing.T) {
	for _, count := range []int{math.MinInt, -1 << 59, -255, -1, 256, 8160, 1 << 32, 1 << 58, 1 << 59, 1<<59 + 1, math.MaxInt} {
		if keys, e := Keys([]byte("a"), []byte("b"), "c", count); e != api.ErrRange || len(keys) != 0 {
			t.Errorf("%d keys: %d, %v", count, len(keys), e)
		}
	}
}

// P2: what is handed in, its spare room too, is neither changed nor kept.
func TestArgumentsAreNeitherChangedNorKept(t *testing.T) {
	for _, n := range []int{10, 64, 100} {
		room := some(n + 100)
		before := bytes.Clone(room)
		key, text := room[:n/2], room[n/2:n]
		wholeKey := room[:n]
		parts := make([][]byte, 1, 3)
		parts[0] = text
		m := New(wholeKey)
		m.Write(parts...)
		Sum(key, parts...)
		k := Extract(key, parts...)
		Expand(k, 100, parts...)
		Keys(key, text, "info", 3)
		Equal(key, text)
		if !bytes.Equal(room, before) || len(parts[0]) != len(text) || parts[:3][1] != nil || parts[:3][2] != nil {
			t.Errorf("%d bytes were changed", n)
		}
		want := standard(wholeKey, text)
		clear(room)
		clear(parts)
		if m.Sum() != want {
			t.Errorf("%d bytes were kept", n)
		}
	}
}

// P2: two answers share no memory, and hang on the arguments alone.
func TestAnswersAreNew(t *testing.T) {
	key := api.Key(some(32))
	a, _ := Expand(key, 100, []byte("x"))
	b, _ := Expand(key, 100, []byte("x"))
	want := bytes.Clone(b)
	clear(a)
	if !bytes.Equal(b, want) {
		t.Error("two answers of Expand share memory")
	}
	if c, _ := Expand(key, 100, []byte("x")); !bytes.Equal(c, want) {
		t.Error("Expand answers otherwise the third time")
	}
	k, _ := Keys(nil, key[:], "x", 3)
	l, _ := Keys(nil, key[:], "x", 3)
	last := l[2]
	clear(k)
	if l[2] != last || last == (api.Key{}) {
		t.Error("two answers of Keys share memory")
	}
}
