package ladder

import (
	"crypto/ecdh"
	"encoding/hex"
	"math/big"
	"math/rand"
	"testing"

	"intaglio/api"
	"intaglio/field"
	"intaglio/scalar"
)

// key: 32 bytes written in hexadecimal digits.
func key(t testing.TB, s string) api.Key {
	t.Helper()
	b, err := hex.DecodeString(s)
	if err != nil || len(b) != 32 {
		t.Fatalf("no key: %s", s)
	}
	return api.Key(b)
}

// prime: 2^255 - 19.
func prime() *big.Int {
	p := new(big.Int).Lsh(big.NewInt(1), 255)
	return p.Sub(p, big.NewInt(19))
}

// mod: what n leaves modulo p.
func mod(n *big.Int) *big.Int { return new(big.Int).Mod(n, prime()) }

// bigOf: the number of 32 bytes, the lowest first.
func bigOf(k api.Key) *big.Int {
	var turned [32]byte
	for i, b := range k {
		turned[31-i] = b
	}
	return new(big.Int).SetBytes(turned[:])
}

// keyOf: the 32 bytes of a number, the lowest first.
func keyOf(n *big.Int) api.Key {
	var k, turned api.Key
	n.FillBytes(turned[:])
	for i, b := range turned {
		k[31-i] = b
	}
	return k
}

// chance: n keys, always the same.
func chance(n int) []api.Key {
	r := rand.New(rand.NewSource(5))
	list := make([]api.Key, n)
	for i := range list {
		r.Read(list[i][:])
	}
	return list
}

// full: the key of which all bits are set.
func full() api.Key {
	var k api.Key
	for i := range k {
		k[i] = 0xff
	}
	return k
}

// affine: a point with both coordinates; nil is the one that has none.
type affine struct{ u, v *big.Int }

// plus: two points of b v^2 = u^3 + 486662 u^2 + u, by its chord or its tangent.
func plus(b *big.Int, p, q *affine) *affine {
	if p == nil {
		return q
	}
	if q == nil {
		return p
	}
	a := big.NewInt(486662)
	var above, below *big.Int
	if p.u.Cmp(q.u) == 0 {
		if mod(new(big.Int).Add(p.v, q.v)).Sign() == 0 {
			return nil
		}
		above = new(big.Int).Mul(big.NewInt(3), new(big.Int).Mul(p.u, p.u))
		above.Add(above, new(big.Int).Mul(big.NewInt(2), new(big.Int).Mul(a, p.u)))
		above.Add(above, big.NewInt(1))
		below = new(big.Int).Mul(big.NewInt(2), new(big.Int).Mul(b, p.v))
	} else {
		above, below = new(big.Int).Sub(q.v, p.v), new(big.Int).Sub(q.u, p.u)
	}
	slope := mod(new(big.Int).Mul(above, new(big.Int).ModInverse(mod(below), prime())))
	u := new(big.Int).Mul(b, new(big.Int).Mul(slope, slope))
	u = mod(u.Sub(u.Sub(u.Sub(u, a), p.u), q.u))
	v := new(big.Int).Mul(slope, new(big.Int).Sub(p.u, u))
	return &affine{u, mod(v.Sub(v, p.v))}
}

// want: what Multiply has to answer, found otherwise: with both coordinates, by chords and tangents.
// b is chosen so that the point u, 1 is on the curve b v^2 = u^3 + 486662 u^2 + u: it is the curve itself or its twist, turned.
func want(k, u api.Key) api.Key {
	u[31] &= 0x7f
	n := mod(bigOf(u))
	if n.Sign() == 0 {
		return api.Key{} // the point 0, 0: an even number times it has no coordinates
	}
	b := new(big.Int).Add(n, big.NewInt(486662))
	b = mod(new(big.Int).Add(b.Mul(b, n), big.NewInt(1)))
	b = mod(b.Mul(b, n))
	k[0] &= 248
	k[31] = k[31]&127 | 64
	factor := bigOf(k)
	var made *affine
	for i := factor.BitLen() - 1; i >= 0; i-- {
		made = plus(b, made, made)
		if factor.Bit(i) == 1 {
			made = plus(b, made, &affine{n, big.NewInt(1)})
		}
	}
	if made == nil {
		return api.Key{}
	}
	return keyOf(made.u)
}

// tinyU: all coordinates of points of which eight times is the one without any, as keys of 255 bits.
func tinyU(t testing.TB) []api.Key {
	one := big.NewInt(1)
	return []api.Key{
		{},
		{1},
		key(t, "e0eb7a7c3b41b8ae1656e3faf19fc46ada098deb9c32b1fd866205165f49b800"),
		key(t, "5f9c95bca3508c24b1d0b1559c83ef5b04445cc4581c8e86d8224eddd09f1157"),
		keyOf(new(big.Int).Sub(prime(), one)),
		keyOf(prime()),
		keyOf(new(big.Int).Add(prime(), one)),
	}
}

// coordinates: about 0, about p, with the highest bit and without; the tiny ones; the greatest; some by chance.
func coordinates(t testing.TB) []api.Key {
	list := append(tinyU(t), full(), api.Key{31: 0x80}, api.Key{31: 0x40})
	for d := int64(0); d <= 20; d++ {
		list = append(list, keyOf(big.NewInt(d)))
		list = append(list, keyOf(new(big.Int).Add(prime(), big.NewInt(d-2))))
	}
	for _, k := range list {
		k[31] ^= 0x80
		list = append(list, k)
	}
	return append(list, chance(20)...)
}

// P5.1: the two examples of RFC 7748, section 5.2; the second u has the highest bit.
func TestStandardExamples(t *testing.T) {
	for _, c := range [][3]string{
		{"a546e36bf0527c9d3b16154b82465edd62144c0ac1fc5a18506a2244ba449ac4", "e6db6867583030db3594c1a424b15f7c726624ec26b3353b10a903a6d0ab1c4c", "c3da55379de9c6908e94ea4df28d084f32eccf03491c71f754b4075577a28552"},
		{"4b66e9d4d1b4673c5ad22691957d6af5c11b6421e0ea01d42ca4169e7918ba0d", "e5210f12786811d3f4b7959d0538ae2c31dbe7106fc03c3efc4cd549c715a493", "95cbde9476e8907d7aade45cb4b873f88b595a68799fa152e6f8f7647aac7957"},
	} {
		if got := Multiply(key(t, c[0]), key(t, c[1])); got != key(t, c[2]) {
			t.Errorf("%s times %s: %x", c[0], c[1], got)
		}
	}
}

// P5.1: RFC 7748's row of calls, each of what the last ones answered.
func TestStandardRow(t *testing.T) {
	k, u := api.Key{9}, api.Key{9}
	for i := range 1000 {
		k, u = Multiply(k, u), k
		if i == 0 && k != key(t, "422c8e7a6227d7bca1350b3e2bb7279f7897b87bb6854b783c60e80311ae3079") {
			t.Fatalf("once: %x", k)
		}
	}
	if k != key(t, "684cf59ba83309552800ef566f2f4d3c1c3887c49360e3875f2eb94d99532c51") {
		t.Errorf("a thousand times: %x", k)
	}
}

// P5.2: RFC 7748's example of two who agree, section 6.1.
func TestStandardAgreement(t *testing.T) {
	a := key(t, "77076d0a7318a57d3c16c17251b26645df4c2f87ebc0992ab177fba51db92c2a")
	b := key(t, "5dab087e624a8a4b79e17f8b83800ee66f3bb1292618b6fd1c2f8b27ff88e0eb")
	if Public(a) != key(t, "8520f0098930a754748b7ddcb43ef75a0dbf3a0d26381af4eba4a98eaa9b4e6a") {
		t.Errorf("Public of the one: %x", Public(a))
	}
	if Public(b) != key(t, "de9edb7d7b7dc1b4d35b61c2ece435373f8343c85b78674dadfc7e146f882b4f") {
		t.Errorf("Public of the other: %x", Public(b))
	}
	secret := key(t, "4a5d9d5ba4ce2de1728e3bf480350f25e07e21c947d19e3376f09b3c1e161742")
	if got, e := Agree(a, Public(b)); e != api.OK || got != secret {
		t.Errorf("Agree of the one: %x, %d", got, e)
	}
	if got, e := Agree(b, Public(a)); e != api.OK || got != secret {
		t.Errorf("Agree of the other: %x, %d", got, e)
	}
}

// P5.1: held against points with both coordinates, at all coordinates that are edges, on the curve and on its twist.
func TestMultiplyOtherwiseFound(t *testing.T) {
	factors := append([]api.Key{{}, full(), {8}, {31: 0x3f}}, chance(2)...)
	for _, u := range coordinates(t) {
		for _, k := range factors {
			if got := Multiply(k, u); got != want(k, u) {
				t.Fatalf("%x times %x: %x, not %x", k, u, got, want(k, u))
			}
		}
	}
}

// P5.1: by chance, coordinates of the curve and of its twist are met: both halves of all numbers.
func TestBothCurvesAreMet(t *testing.T) {
	var on, off int
	for _, k := range chance(20) {
		u := field.Of(k)
		if _, ok := field.Root(field.Add(field.Product(u, u, u), field.Product(field.Small(486662), u, u), u), field.Small(1)); ok {
			on++
		} else {
			off++
		}
	}
	if on == 0 || off == 0 {
		t.Errorf("%d on the curve, %d on the twist", on, off)
	}
}

// P5.1, P5.2: held against the library's X25519.
func TestLibrary(t *testing.T) {
	list := chance(200)
	for i, k := range list {
		own, err := ecdh.X25519().NewPrivateKey(k[:])
		if err != nil {
			t.Fatal(err)
		}
		if api.Key(own.PublicKey().Bytes()) != Public(k) {
			t.Fatalf("Public of %x: %x", k, Public(k))
		}
		u := list[len(list)-1-i]
		theirs, err := ecdh.X25519().NewPublicKey(u[:])
		if err != nil {
			t.Fatal(err)
		}
		secret, err := own.ECDH(theirs)
		if err != nil {
			t.Fatal(err)
		}
		if got, e := Agree(k, u); e != api.OK || got != api.Key(secret) || got != Multiply(k, u) {
			t.Fatalf("Agree on %x and %x: %x, %d", k, u, got, e)
		}
	}
}

// P5.1: the factor is clamped: five bits don't count, all others do.
func TestFactorIsClamped(t *testing.T) {
	for _, k := range append(chance(3), api.Key{}, full()) {
		plain := Multiply(k, api.Key{9})
		if Multiply(scalar.Clamp(k), api.Key{9}) != plain {
			t.Fatalf("%x clamped", k)
		}
		for i := range 256 {
			other := k
			other[i/8] ^= 1 << (i % 8)
			same := i < 3 || i > 253
			if (Multiply(other, api.Key{9}) == plain) != same {
				t.Errorf("%x: bit %d", k, i)
			}
		}
	}
}

// P5.1: the highest bit of the coordinate doesn't count, and coordinates that are alike are the same one.
func TestCoordinate(t *testing.T) {
	k := chance(1)[0]
	for _, u := range coordinates(t) {
		high := u
		high[31] ^= 0x80
		if Multiply(k, u) != Multiply(k, high) || Multiply(k, u) != Multiply(k, field.Of(u).Bytes()) {
			t.Errorf("%x", u)
		}
		if !field.Canonical(Multiply(k, u)) {
			t.Errorf("%x: the answer is no Bytes", u)
		}
	}
	for d := int64(0); d < 19; d++ {
		if Multiply(k, keyOf(new(big.Int).Add(prime(), big.NewInt(d)))) != Multiply(k, api.Key{byte(d)}) {
			t.Errorf("p and %d more", d)
		}
	}
}

// P5.2: what anybody could know isn't agreed on, and no key stands beside the error.
func TestAgreeOnZero(t *testing.T) {
	for _, u := range tinyU(t) {
		for range 2 {
			for _, k := range append(chance(5), api.Key{}, full()) {
				if got := Multiply(k, u); got != (api.Key{}) {
					t.Errorf("%x times %x: %x", k, u, got)
				}
				if got, e := Agree(k, u); e != api.ErrZero || got != (api.Key{}) {
					t.Errorf("Agree on %x and %x: %x, %d", k, u, got, e)
				}
			}
			u[31] |= 0x80
		}
	}
}

// P5.2: all coordinates that aren't tiny ones are taken, those right beside them too.
func TestAgreeOnOthers(t *testing.T) {
	for _, u := range []api.Key{{2}, {3}, {9}, keyOf(new(big.Int).Sub(prime(), big.NewInt(2))), keyOf(new(big.Int).Add(prime(), big.NewInt(2))), {31: 0x40}, {2, 31: 0x80}, full()} {
		for _, k := range append(chance(3), api.Key{}, full()) {
			if got, e := Agree(k, u); e != api.OK || got != want(k, u) || got == (api.Key{}) {
				t.Errorf("Agree on %x and %x: %x, %d", k, u, got, e)
			}
		}
	}
}

// P5.2, and the chapter's example: both make the same secret, and another one makes another.
func TestBothAgree(t *testing.T) {
	list := append(chance(20), api.Key{}, full(), api.Key{1}, api.Key{8})
	for i, a := range list[1:] {
		b := list[i]
		x, e := Agree(a, Public(b))
		y, f := Agree(b, Public(a))
		if e != api.OK || f != api.OK || x != y {
			t.Errorf("%x and %x: %x, %d and %x, %d", a, b, x, e, y, f)
		}
		if z, _ := Agree(api.Key{77}, Public(a)); z == x {
			t.Errorf("%x: a third one knows it", a)
		}
	}
}

// P5.2: Public is Multiply of 9, of every key.
func TestPublic(t *testing.T) {
	for _, k := range append(chance(20), api.Key{}, full()) {
		if Public(k) != Multiply(k, api.Key{9}) || Public(k) != want(k, api.Key{9}) {
			t.Errorf("Public of %x: %x", k, Public(k))
		}
	}
}

// P2: the same arguments have the same answer, whatever was called between, and stay as they are.
func TestCallsChangeNothing(t *testing.T) {
	list := chance(2)
	k, u := list[0], list[1]
	first := Multiply(k, u)
	Agree(u, api.Key{})
	Public(u)
	if Multiply(k, u) != first || k != list[0] || u != list[1] {
		t.Error("Multiply answers otherwise the second time")
	}
}

func BenchmarkMultiply(b *testing.B) {
	k := chance(1)[0]
	for b.Loop() {
		k = Multiply(k, api.Key{9})
	}
}
