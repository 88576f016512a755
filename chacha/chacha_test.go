package chacha

import (
	"bytes"
	"crypto/sha256"
	"encoding/hex"
	"math"
	"math/rand"
	"testing"

	"intaglio/api"
)

// raw: the bytes of digits.
func raw(t *testing.T, s string) []byte {
	t.Helper()
	b, err := hex.DecodeString(s)
	if err != nil {
		t.Fatal(err)
	}
	return b
}

// some: n bytes that differ from one another.
func some(n int) []byte {
	b := make([]byte, n)
	rand.New(rand.NewSource(int64(n))).Read(b)
	return b
}

// ramp: n bytes by a rule that a program in another language can follow.
func ramp(n, a int) []byte {
	b := make([]byte, n)
	for i := range b {
		b[i] = byte(i*a + i>>8*31 + a)
	}
	return b
}

// slow: what Mix is to answer, each byte by itself.
func slow(key api.Key, n Nonce, number uint32, text []byte) []byte {
	out := make([]byte, len(text))
	for i, x := range text {
		b := Block(key, n, number+uint32(i/64))
		out[i] = x ^ b[i%64]
	}
	return out
}

// P8.1: the examples of RFC 8439 (2.3.2 and A.1).
func TestBlockOfTheStandard(t *testing.T) {
	rows := []struct {
		key, nonce string
		number     uint32
		block      string
	}{
		{"000102030405060708090a0b0c0d0e0f101112131415161718191a1b1c1d1e1f", "000000090000004a00000000", 1, "10f1e7e4d13b5915500fdd1fa32071c4c7d1f4c733c068030422aa9ac3d46c4ed2826446079faa0914c2d705d98b02a2b5129cd1de164eb9cbd083e8a2503c4e"},
		{"0000000000000000000000000000000000000000000000000000000000000000", "000000000000000000000000", 0, "76b8e0ada0f13d90405d6ae55386bd28bdd219b8a08ded1aa836efcc8b770dc7da41597c5157488d7724e03fb8d84a376a43b8f41518a11cc387b669b2ee6586"},
		{"0000000000000000000000000000000000000000000000000000000000000000", "000000000000000000000000", 1, "9f07e7be5551387a98ba977c732d080dcb0f29a048e3656912c6533e32ee7aed29b721769ce64e43d57133b074d839d531ed1f28510afb45ace10a1f4b794d6f"},
		{"0000000000000000000000000000000000000000000000000000000000000001", "000000000000000000000000", 1, "3aeb5224ecf849929b9d828db1ced4dd832025e8018b8160b82284f3c949aa5a8eca00bbb4a73bdad192b5c42f73f2fd4e273644c8b36125a64addeb006c13a0"},
		{"00ff000000000000000000000000000000000000000000000000000000000000", "000000000000000000000000", 2, "72d54dfbf12ec44b362692df94137f328fea8da73990265ec1bbbea1ae9af0ca13b25aa26cb4a648cb9b9d1be65b2c0924a66c54d545ec1b7374f4872e99f096"},
		{"0000000000000000000000000000000000000000000000000000000000000000", "000000000000000000000002", 0, "c2c64d378cd536374ae204b9ef933fcd1a8b2288b3dfa49672ab765b54ee27c78a970e0e955c14f3a88e741b97c286f75f8fc299e8148362fa198a39531bed6d"},
	}
	for i, r := range rows {
		b := Block(api.Key(raw(t, r.key)), Nonce(raw(t, r.nonce)), r.number)
		if hex.EncodeToString(b[:]) != r.block {
			t.Errorf("example %d: %x", i+1, b)
		}
	}
}

// P8.1: five hundred blocks, of numbers great and small, summed up as OpenSSL makes them.
func TestManyBlocks(t *testing.T) {
	h := sha256.New()
	for i := range 500 {
		b := Block(api.Key(ramp(32, i)), Nonce(ramp(12, i*3+1)), uint32(i)*0x9e3779b1)
		h.Write(b[:])
	}
	if sum := hex.EncodeToString(h.Sum(nil)); sum != "455b0bb69faca64f80d56bea723aa8f2b157179b58d92ce5c7f86678c8121a98" {
		t.Errorf("the blocks' sum is %s", sum)
	}
}

// P8.1: each bit of the key, of the nonce and of the number counts.
func TestBlockHangsOnEachBit(t *testing.T) {
	seen := map[[64]byte]int{}
	seen[Block(api.Key{}, Nonce{}, 0)]++
	for i := range 256 {
		var key api.Key
		key[i/8] = 1 << (i % 8)
		seen[Block(key, Nonce{}, 0)]++
	}
	for i := range 96 {
		var n Nonce
		n[i/8] = 1 << (i % 8)
		seen[Block(api.Key{}, n, 0)]++
	}
	for i := range 32 {
		seen[Block(api.Key{}, Nonce{}, 1<<i)]++
	}
	if len(seen) != 1+256+96+32 {
		t.Errorf("%d blocks of %d differ", len(seen), 1+256+96+32)
	}
}

// P8.2: the example of RFC 8439 (2.4.2), cut anywhere.
func TestMixOfTheStandard(t *testing.T) {
	key := api.Key(raw(t, "000102030405060708090a0b0c0d0e0f101112131415161718191a1b1c1d1e1f"))
	n := Nonce(raw(t, "000000000000004a00000000"))
	text := []byte("Ladies and Gentlemen of the class of '99: If I could offer you only one tip for the future, sunscreen would be it.")
	want := "6e2e359a2568f98041ba0728dd0d6981e97e7aec1d4360c20a27afccfd9fae0bf91b65c5524733ab8f593dabcd62b3571639d624e65152ab8f530c359f0861d807ca0dbf500d6a6156a38e088a22b65e52bc514d16ccf806818ce91ab77937365af90bbf74a35be6b40b8eedf2785e42874d"
	for i := range len(text) + 1 {
		mixed, e := Mix(key, n, 1, text[:i], nil, text[i:])
		if e != api.OK || hex.EncodeToString(mixed) != want {
			t.Fatalf("cut at %d: %x, %v", i, mixed, e)
		}
		back, e := Mix(key, n, 1, mixed[:i/2], mixed[i/2:])
		if e != api.OK || !bytes.Equal(back, text) {
			t.Fatalf("back again, cut at %d: %q, %v", i/2, back, e)
		}
	}
}

// P8.2: all lengths about a block's end, in parts of all lengths; and numbers that go round.
func TestMixOfLengths(t *testing.T) {
	key, n := api.Key(some(32)), Nonce(some(12))
	for _, number := range []uint32{0, 1, 1 << 31, math.MaxUint32 - 1, math.MaxUint32} {
		for size := range 200 {
			text := some(size)
			want := slow(key, n, number, text)
			var single [][]byte
			for i := range text {
				single = append(single, text[i:i+1], text[i:i])
			}
			a, e := Mix(key, n, number, text)
			b, f := Mix(key, n, number, single...)
			if e != api.OK || f != api.OK || !bytes.Equal(a, want) || !bytes.Equal(b, want) {
				t.Fatalf("%d bytes from block %d on: %v, %v", size, number, e, f)
			}
		}
	}
}

// P8.2: behind the last number comes 0, and nothing else of the table changes.
func TestMixGoesRound(t *testing.T) {
	key, n := api.Key(some(32)), Nonce(some(12))
	mixed, e := Mix(key, n, math.MaxUint32, make([]byte, 192))
	last, first, second := Block(key, n, math.MaxUint32), Block(key, n, 0), Block(key, n, 1)
	if e != api.OK || [64]byte(mixed[:64]) != last || [64]byte(mixed[64:128]) != first || [64]byte(mixed[128:]) != second {
		t.Errorf("%x, %v", mixed, e)
	}
}

// P8.2: of nothing nothing.
func TestMixOfNothing(t *testing.T) {
	for _, parts := range [][][]byte{nil, {}, {nil}, {{}, nil, {}}} {
		if mixed, e := Mix(api.Key{1}, Nonce{2}, 3, parts...); e != api.OK || len(mixed) != 0 {
			t.Errorf("%v: %x, %v", parts, mixed, e)
		}
	}
}

// P8.2: as many bytes as one call takes, and one more; the stream's sum is OpenSSL's.
func TestMixOfTheMost(t *testing.T) {
	if MaxStream != 16777216 {
		t.Errorf("MaxStream is %d", MaxStream)
	}
	key, n := api.Key(ramp(32, 3)), Nonce(ramp(12, 5))
	all := make([]byte, MaxStream+1)
	for _, parts := range [][][]byte{{all[1:]}, {all[:1], all[2:]}, {all[2:], nil, all[:1]}} {
		mixed, e := Mix(key, n, 9, parts...)
		sum := sha256.Sum256(mixed)
		if e != api.OK || len(mixed) != MaxStream || hex.EncodeToString(sum[:]) != "ae4405fcd7923ae18d55b3ffc241d05f2e34c650f5bad8568501d31c0498707d" {
			t.Errorf("%d parts: %d bytes with the sum %x, %v", len(parts), len(mixed), sum, e)
		}
	}
	many := make([][]byte, 1000)
	for i := range many {
		many[i] = all
	}
	for _, parts := range [][][]byte{{all}, {all[1:], all[:1]}, {all[:1], all[1:]}, {all[:1<<23], nil, all[1<<23:]}, {all, nil}, many} {
		if mixed, e := Mix(key, n, 9, parts...); e != api.ErrLong || mixed != nil {
			t.Errorf("%d parts with too many bytes: %d bytes, %v", len(parts), len(mixed), e)
		}
	}
}

// P2: what is handed in, its spare room too, is neither changed nor kept; answers share no memory.
func TestArgumentsAndAnswersAreApart(t *testing.T) {
	key, n := api.Key(some(32)), Nonce(some(12))
	for _, size := range []int{1, 63, 64, 65, 200} {
		room := some(size + 100)
		before := bytes.Clone(room)
		parts := make([][]byte, 1, 3)
		parts[0] = room[:size]
		a, _ := Mix(key, n, 7, parts...)
		b, _ := Mix(key, n, 7, parts...)
		if !bytes.Equal(room, before) || len(parts[0]) != size || parts[:3][1] != nil || parts[:3][2] != nil {
			t.Fatalf("%d bytes were changed", size)
		}
		want := slow(key, n, 7, room[:size])
		clear(a[:cap(a)])
		if !bytes.Equal(room, before) || !bytes.Equal(b, want) {
			t.Errorf("%d bytes: an answer shares memory", size)
		}
		clear(room)
		if !bytes.Equal(b, want) {
			t.Errorf("%d bytes: an answer shares memory with an argument", size)
		}
	}
}
