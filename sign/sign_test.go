package sign

import (
	"bytes"
	"crypto/ed25519"
	"crypto/sha512"
	"encoding/hex"
	"math/big"
	"math/rand"
	"testing"

	"intaglio/api"
	"intaglio/point"
)

// raw: bytes written in hexadecimal digits.
func raw(t testing.TB, s string) []byte {
	t.Helper()
	b, err := hex.DecodeString(s)
	if err != nil {
		t.Fatal(err)
	}
	return b
}

// order: how many multiples Base has.
func order() *big.Int {
	low, _ := new(big.Int).SetString("27742317777372353535851937790883648493", 10)
	return low.Add(low, new(big.Int).Lsh(big.NewInt(1), 252))
}

// bigOf: the number of some bytes, the lowest first.
func bigOf(b []byte) *big.Int {
	turned := make([]byte, len(b))
	for i, x := range b {
		turned[len(b)-1-i] = x
	}
	return new(big.Int).SetBytes(turned)
}

// keyOf: the 32 bytes of a number, the lowest first.
func keyOf(n *big.Int) api.Key {
	var k, turned api.Key
	n.FillBytes(turned[:])
	for i, b := range turned {
		k[31-i] = b
	}
	return k
}

// chance: n keys, always the same.
func chance(n int) []api.Key {
	r := rand.New(rand.NewSource(7))
	list := make([]api.Key, n)
	for i := range list {
		r.Read(list[i][:])
	}
	return list
}

// text: n bytes, no two runs of which are alike.
func text(n int) []byte {
	b := make([]byte, n)
	rand.New(rand.NewSource(int64(n))).Read(b)
	return b
}

// full: the key of which all bits are set.
func full() api.Key { return api.Key(bytes.Repeat([]byte{0xff}, 32)) }

// edges: seeds of which each is as far out as can be, and some by chance.
func edges() []api.Key {
	return append([]api.Key{{}, {1}, {31: 1}, {31: 0x80}, full()}, chance(12)...)
}

// joined: a signature of its two halves.
func joined(front, behind api.Key) api.Sig { return api.Sig(append(front[:], behind[:]...)) }

// scalarOf: a seed's scalar, by the standard's own words.
func scalarOf(seed api.Key) *big.Int {
	sum := sha512.Sum512(seed[:])
	sum[0] &= 248
	sum[31] &= 127
	sum[31] |= 64
	return bigOf(sum[:32])
}

// kOf: the number k, by the library's SHA-512.
func kOf(front, public api.Key, msg []byte) *big.Int {
	sum := sha512.Sum512(bytes.Join([][]byte{front[:], public[:], msg}, nil))
	return new(big.Int).Mod(bigOf(sum[:]), order())
}

// answer: the second half that belongs to r, k and a scalar.
func answer(r, k, secret *big.Int) api.Key {
	s := new(big.Int).Mul(k, secret)
	return keyOf(s.Mod(s.Add(s, r), order()))
}

// tinies: the eight points of which eight times each is Zero; place n holds n times the one in place 1.
func tinies(t testing.TB) []point.Point {
	t.Helper()
	eighth, e := point.Decode(api.Key(raw(t, "c7176a703d4dd84fba3c0b760d10670f2a2053fa2c39ccc64ec7fd7792ac037a")))
	if e != api.OK {
		t.Fatal("no point")
	}
	list := make([]point.Point, 8)
	seen := map[api.Key]int{}
	for i := range list {
		list[i] = eighth.Multiply(api.Key{byte(i)})
		seen[list[i].Encode()] = i
	}
	if len(seen) != 8 || !eighth.Tiny() {
		t.Fatal("not the eight points")
	}
	return list
}

// examples: seed, public key, text and signature, as RFC 8032 has them (7.1).
func examples() [][4]string {
	return [][4]string{
		{
			"9d61b19deffd5a60ba844af492ec2cc44449c5697b326919703bac031cae7f60",
			"d75a980182b10ab7d54bfed3c964073a0ee172f3daa62325af021a68f707511a",
			"",
			"e5564300c360ac729086e2cc806e828a84877f1eb8e5d974d873e065224901555fb8821590a33bacc61e39701cf9b46bd25bf5f0595bbe24655141438e7a100b",
		},
		{
			"4ccd089b28ff96da9db6c346ec114e0f5b8a319f35aba624da8cf6ed4fb8a6fb",
			"3d4017c3e843895a92b70aa74d1b7ebc9c982ccf2ec4968cc0cd55f12af4660c",
			"72",
			"92a009a9f0d4cab8720e820b5f642540a2b27b5416503f8fb3762223ebdb69da085ac1e43e15996e458f3613d0f11d8c387b2eaeb4302aeeb00d291612bb0c00",
		},
		{
			"c5aa8df43f9f837bedb7442f31dcb7b166d38535076f094b85ce3a2e0b4458f7",
			"fc51cd8e6218a1a38da47ed00230f0580816ed13ba3303ac5deb911548908025",
			"af82",
			"6291d657deec24024827e69c3abe01a30ce548a284743a445e3680d7db5ac3ac18ff9b538d16f290ae67f760984dc6594a7c15e9716ed28dc027beceea1ec40a",
		},
		{
			"833fe62409237b9d62ec77587520911e9a759cec1d19755b7da901b96dca3d42",
			"ec172b93ad5e563bf4932c70e1245034c35467ef2efd4d64ebf819683467e2bf",
			"ddaf35a193617abacc417349ae20413112e6fa4e89a97ea20a9eeee64b55d39a2192992a274fc1a836ba3c23a3feebbd454d4423643ce80e2a9ac94fa54ca49f",
			"dc2a4459e7369633a52b1bf277839a00201009a3efbf3ecb69bea2186c26b58909351fc9ac90b3ecfdfbc7c66431e0303dca179c138ac17ad9bef1177331a704",
		},
	}
}

// P7.1, P7.2, P7.3: the standard's own examples.
func TestStandard(t *testing.T) {
	for _, x := range examples() {
		seed, msg := api.Key(raw(t, x[0])), raw(t, x[2])
		public, sig := Public(seed), Make(seed, msg)
		if hex.EncodeToString(public[:]) != x[1] {
			t.Errorf("Public(%s) = %x", x[0], public)
		}
		if hex.EncodeToString(sig[:]) != x[3] {
			t.Errorf("Make(%s, %s) = %x", x[0], x[2], sig)
		}
		if e := Check(api.Key(raw(t, x[1])), api.Sig(raw(t, x[3])), msg); e != api.OK {
			t.Errorf("Check(%s) = %v", x[1], e)
		}
	}
}

// P7.1: Public, of all kinds of seeds, held against the library.
func TestPublic(t *testing.T) {
	for _, seed := range edges() {
		want := ed25519.NewKeyFromSeed(seed[:]).Public().(ed25519.PublicKey)
		if k := Public(seed); !bytes.Equal(k[:], want) {
			t.Errorf("Public(%x) = %x, not %x", seed, k, want)
		}
	}
}

// P7.2, P7.3: Make of texts of many lengths, the edges of SHA-512's blocks among them, held against the library; each is taken.
func TestMake(t *testing.T) {
	lengths := []int{0, 1, 2, 31, 32, 46, 47, 48, 63, 64, 65, 79, 80, 81, 95, 96, 97, 111, 112, 127, 128, 129, 1000}
	for i, seed := range edges() {
		for j := i % 3; j < len(lengths); j += 3 {
			msg := text(lengths[j])
			want := ed25519.Sign(ed25519.NewKeyFromSeed(seed[:]), msg)
			sig := Make(seed, msg)
			if !bytes.Equal(sig[:], want) {
				t.Errorf("Make(%x, %d bytes) = %x, not %x", seed, len(msg), sig, want)
			}
			if e := Check(Public(seed), sig, msg); e != api.OK {
				t.Errorf("Check(%x, %d bytes) = %v", seed, len(msg), e)
			}
		}
	}
}

// cuts: lists of parts that are the same bytes, one behind the other.
func cuts(b []byte) [][][]byte {
	n := len(b)
	single := make([][]byte, n)
	for i := range b {
		single[i] = b[i : i+1]
	}
	return [][][]byte{
		{b}, {nil, b}, {b, {}}, {b[:1], b[1:]}, {b[:n-1], b[n-1:]}, {b[:n/2], nil, {}, b[n/2:]}, single,
	}
}

// P7.2, P7.3: all bytes of the parts are signed, one part behind the other, however they are cut.
func TestParts(t *testing.T) {
	seed, msg := api.Key{5}, text(150)
	public, want := Public(seed), Make(seed, msg)
	for i, parts := range cuts(msg) {
		if Make(seed, parts...) != want {
			t.Errorf("Make: cut %d is another text", i)
		}
		if e := Check(public, want, parts...); e != api.OK {
			t.Errorf("Check: cut %d: %v", i, e)
		}
	}
	none := Make(seed)
	for i, parts := range [][][]byte{nil, {}, {nil}, {{}, nil, {}}} {
		if Make(seed, parts...) != none || Check(public, none, parts...) != api.OK {
			t.Errorf("empty parts %d aren't no parts", i)
		}
	}
	if Check(public, want, msg[75:], msg[:75]) != api.ErrSign || Check(public, want, msg[:149]) != api.ErrSign || Check(public, want) != api.ErrSign {
		t.Error("other parts are taken")
	}
}

// P7.3: the document's example.
func TestExample(t *testing.T) {
	seed := api.Key{9}
	sig := Make(seed, []byte("a"), []byte("b"))
	if e := Check(Public(seed), sig, []byte("ab")); e != api.OK {
		t.Errorf("ab: %v", e)
	}
	if e := Check(Public(seed), sig, []byte("ac")); e != api.ErrSign {
		t.Errorf("ac: %v", e)
	}
}

// P7.3: no bit of a signature may be another one.
func TestEveryBitOfTheSignature(t *testing.T) {
	seed, msg := api.Key{3}, []byte("every bit")
	public, sig := Public(seed), Make(seed, msg)
	for i := range 512 {
		wrong := sig
		wrong[i/8] ^= 1 << (i % 8)
		if e := Check(public, wrong, msg); e != api.ErrSign {
			t.Errorf("bit %d: %v", i, e)
		}
	}
}

// P7.3: no bit of a public key or of a text may be another one. Of a key that is no point, ErrPoint.
func TestEveryBitOfKeyAndText(t *testing.T) {
	seed, msg := api.Key{4}, []byte("every bit")
	public := Public(seed)
	sig := Make(seed, msg)
	count := map[api.Errno]int{}
	for i := range 256 {
		wrong, want := public, api.ErrSign
		wrong[i/8] ^= 1 << (i % 8)
		if _, e := point.Decode(wrong); e != api.OK {
			want = api.ErrPoint
		}
		count[want]++
		if e := Check(wrong, sig, msg); e != want {
			t.Errorf("bit %d of the key: %v, not %v", i, e, want)
		}
	}
	if count[api.ErrSign] < 50 || count[api.ErrPoint] < 50 {
		t.Errorf("too few of a kind: %v", count)
	}
	for i := range 8 * len(msg) {
		wrong := bytes.Clone(msg)
		wrong[i/8] ^= 1 << (i % 8)
		if e := Check(public, sig, wrong); e != api.ErrSign {
			t.Errorf("bit %d of the text: %v", i, e)
		}
	}
}

// noPoints: keys of which none is the Encode of a point: y without an x, y too great, and an odd nought.
func noPoints() []api.Key {
	prime := new(big.Int).Lsh(big.NewInt(1), 255)
	prime.Sub(prime, big.NewInt(19))
	list := []api.Key{{2}, {2, 31: 0x80}, full(), {1, 31: 0x80}}
	for n := range int64(19) { // 2^255 - 19 and all above it, also those that would be points modulo it
		k := keyOf(new(big.Int).Add(prime, big.NewInt(n)))
		list = append(list, k)
		k[31] |= 0x80
		list = append(list, k)
	}
	below := keyOf(new(big.Int).Sub(prime, big.NewInt(1)))
	below[31] |= 0x80 // y is -1, x nought, and said to be odd
	return append(list, below)
}

// P7.3: ErrPoint of a public key that is no point, whatever else is wrong.
func TestNoPoint(t *testing.T) {
	good := Make(api.Key{6}, []byte("x"))
	late := joined(api.Key(good[:32]), full())
	for _, k := range noPoints() {
		for i, sig := range []api.Sig{good, late, joined(api.Key{2}, full()), {}} {
			if e := Check(k, sig, []byte("x")); e != api.ErrPoint {
				t.Errorf("Check(%x), signature %d: %v", k, i, e)
			}
		}
	}
}

// P7.3: ErrSign of a first half that is no point, even where modulo the prime it is the one that holds.
func TestFirstHalfNoPoint(t *testing.T) {
	seed, msg := api.Key{8}, []byte("first")
	public, secret := Public(seed), scalarOf(seed)
	for _, front := range noPoints() {
		k := kOf(front, public, msg) // as if the first half were Zero
		if e := Check(public, joined(front, answer(new(big.Int), k, secret)), msg); e != api.ErrSign {
			t.Errorf("first half %x: %v", front, e)
		}
	}
}

// P7.3: ErrSign of a second half that isn't below the order, though its number of times is the same.
func TestSecondHalfTooGreat(t *testing.T) {
	for _, seed := range chance(3) {
		msg := []byte("second")
		public, sig := Public(seed), Make(seed, msg)
		s := bigOf(sig[32:])
		for i := range 15 {
			k := keyOf(s)
			want := api.ErrSign
			if i == 0 {
				want = api.OK
			}
			if e := Check(public, joined(api.Key(sig[:32]), k), msg); e != want {
				t.Errorf("%d times the order more: %v", i, e)
			}
			s.Add(s, order())
		}
	}
}

// P7.3: ErrSign of a public key that is Tiny, though what is held against one another is the same.
func TestTinyPublic(t *testing.T) {
	for i, p := range tinies(t) {
		public := p.Encode()
		taken := 0
		for n := range 64 {
			msg := []byte{byte(n)}
			front := point.Zero().Encode()
			k := kOf(front, public, msg)
			if point.Equal(p.Multiply(keyOf(k)), point.Zero()) {
				taken++
			}
			if e := Check(public, joined(front, api.Key{}), msg); e != api.ErrSign {
				t.Errorf("tiny %d, text %d: %v", i, n, e)
			}
		}
		if taken == 0 {
			t.Errorf("tiny %d: no text that another check would take", i)
		}
	}
}

// P7.3: what is held against one another is held without a factor of eight: a key, or a first half, with a tiny point in it is taken only where the tiny ones are Zero together.
func TestMixedPoints(t *testing.T) {
	seed, r := api.Key{11}, big.NewInt(987654321)
	secret, list := scalarOf(seed), tinies(t)
	count := map[api.Errno]int{}
	for i, inKey := range list {
		p := point.Add(point.Base().Multiply(keyOf(secret)), inKey)
		public := p.Encode()
		for j, inFront := range list {
			front := point.Add(point.Base().Multiply(keyOf(r)), inFront).Encode()
			for n := range 6 {
				msg := []byte{byte(i), byte(j), byte(n)}
				k := kOf(front, public, msg)
				want := api.ErrSign
				if (int(new(big.Int).Mod(k, big.NewInt(8)).Int64())*i+j)%8 == 0 {
					want = api.OK
				}
				count[want]++
				if e := Check(public, joined(front, answer(r, k, secret)), msg); e != want {
					t.Errorf("%d in the key, %d in front, text %d: %v, not %v", i, j, n, e, want)
				}
			}
		}
	}
	if count[api.OK] < 20 || count[api.ErrSign] < 100 {
		t.Errorf("too few of a kind: %v", count)
	}
}

// P7.3: a first half that is Zero is taken as any other point is.
func TestZeroInFront(t *testing.T) {
	seed, msg := api.Key{12}, []byte("zero")
	public, front := Public(seed), point.Zero().Encode()
	sig := joined(front, answer(new(big.Int), kOf(front, public, msg), scalarOf(seed)))
	if e := Check(public, sig, msg); e != api.OK {
		t.Errorf("Zero in front: %v", e)
	}
	if e := Check(public, joined(front, api.Key{}), msg); e != api.ErrSign {
		t.Errorf("Zero and nought: %v", e)
	}
}

// P7.3: a signature is its own key's alone.
func TestOtherKeys(t *testing.T) {
	seeds := chance(4)
	for i, a := range seeds {
		sig := Make(a, []byte("mine"))
		for j, b := range seeds {
			if e := Check(Public(b), sig, []byte("mine")); (e == api.OK) != (i == j) || e != api.OK && e != api.ErrSign {
				t.Errorf("%d signed, %d asked: %v", i, j, e)
			}
		}
	}
}

// P1: every call takes every argument.
func TestRawArguments(t *testing.T) {
	keys := append(append(edges(), noPoints()...), chance(60)...)
	for i, k := range keys {
		sig := joined(keys[(i+7)%len(keys)], keys[(i+3)%len(keys)])
		if e := Check(k, sig, k[:i%33]); e != api.ErrPoint && e != api.ErrSign {
			t.Errorf("Check(%x, %x) = %v", k, sig, e)
		}
	}
}

// P2: parts are neither changed nor kept, nor is the list's spare room or that of a part; the same call answers the same.
func TestPartsAreNeitherChangedNorKept(t *testing.T) {
	seed := api.Key{13}
	room := text(100)
	whole := [][]byte{room[:10:40], room[40:50], room[60:70], room[80:90]}
	bytesBefore := bytes.Clone(room)
	listBefore := append([][]byte{}, whole...)
	sig := Make(seed, whole[:2]...)
	kept := sig
	if Check(Public(seed), sig, whole[:2]...) != api.OK {
		t.Error("not taken")
	}
	if !bytes.Equal(room, bytesBefore) {
		t.Error("bytes of the parts were changed")
	}
	for i, p := range whole {
		if &p[0] != &listBefore[i][0] || len(p) != len(listBefore[i]) || cap(p) != cap(listBefore[i]) {
			t.Errorf("part %d of the list was changed", i)
		}
	}
	clear(room)
	if sig != kept {
		t.Error("the parts were kept")
	}
	if Make(seed, bytesBefore[:10], bytesBefore[40:50]) != sig {
		t.Error("the same parts have another signature")
	}
}

func BenchmarkMake(b *testing.B) {
	for b.Loop() {
		Make(api.Key{1}, []byte("text"))
	}
}

func BenchmarkCheck(b *testing.B) {
	public, sig := Public(api.Key{1}), Make(api.Key{1}, []byte("text"))
	for b.Loop() {
		Check(public, sig, []byte("text"))
	}
}
