package point

import (
	"crypto/ed25519"
	"crypto/sha512"
	"encoding/hex"
	"math/big"
	"math/rand"
	"testing"

	"intaglio/api"
	"intaglio/field"
)

// key: 32 bytes written in hexadecimal digits.
func key(t testing.TB, s string) api.Key {
	t.Helper()
	b, err := hex.DecodeString(s)
	if err != nil || len(b) != 32 {
		t.Fatalf("no key: %s", s)
	}
	return api.Key(b)
}

// prime: 2^255 - 19.
func prime() *big.Int {
	p := new(big.Int).Lsh(big.NewInt(1), 255)
	return p.Sub(p, big.NewInt(19))
}

// order: how many multiples Base has.
func order() *big.Int {
	low, _ := new(big.Int).SetString("27742317777372353535851937790883648493", 10)
	return low.Add(low, new(big.Int).Lsh(big.NewInt(1), 252))
}

// mod: what n leaves modulo p.
func mod(n *big.Int) *big.Int { return new(big.Int).Mod(n, prime()) }

// times: the product of all, modulo p.
func times(list ...*big.Int) *big.Int {
	all := big.NewInt(1)
	for _, n := range list {
		all = mod(all.Mul(all, n))
	}
	return all
}

// over: one number divided by another, modulo p.
func over(n, m *big.Int) *big.Int { return times(n, new(big.Int).ModInverse(mod(m), prime())) }

// bend: the document's d, from its own digits.
func bend() *big.Int { return over(big.NewInt(-121665), big.NewInt(121666)) }

// bigOf: the number of 32 bytes, the lowest first.
func bigOf(k api.Key) *big.Int {
	var turned [32]byte
	for i, b := range k {
		turned[31-i] = b
	}
	return new(big.Int).SetBytes(turned[:])
}

// keyOf: the 32 bytes of a number, the lowest first.
func keyOf(n *big.Int) api.Key {
	var k, turned api.Key
	n.FillBytes(turned[:])
	for i, b := range turned {
		k[31-i] = b
	}
	return k
}

// chance: n keys, always the same.
func chance(n int) []api.Key {
	r := rand.New(rand.NewSource(6))
	list := make([]api.Key, n)
	for i := range list {
		r.Read(list[i][:])
	}
	return list
}

// full: the key of which all bits are set.
func full() api.Key {
	var k api.Key
	for i := range k {
		k[i] = 0xff
	}
	return k
}

// affine: a point with its two coordinates.
type affine struct{ x, y *big.Int }

// nought: the point 0, 1.
func nought() affine { return affine{big.NewInt(0), big.NewInt(1)} }

// at: the coordinates of a point.
func at(p Point) affine {
	z := p.z.Invert()
	return affine{bigOf(field.Mul(p.x, z).Bytes()), bigOf(field.Mul(p.y, z).Bytes())}
}

// plus: the document's rule for two points, word by word.
func plus(p, q affine) affine {
	bent := times(bend(), p.x, q.x, p.y, q.y)
	one := big.NewInt(1)
	return affine{
		over(new(big.Int).Add(times(p.x, q.y), times(q.x, p.y)), new(big.Int).Add(one, bent)),
		over(new(big.Int).Add(times(p.y, q.y), times(p.x, q.x)), new(big.Int).Sub(one, bent)),
	}
}

// often: a number times a point, by that rule.
func often(n *big.Int, p affine) affine {
	made := nought()
	for i := n.BitLen() - 1; i >= 0; i-- {
		made = plus(made, made)
		if n.Bit(i) == 1 {
			made = plus(made, p)
		}
	}
	return made
}

// written: what Encode has to answer.
func written(p affine) api.Key {
	k := keyOf(p.y)
	k[31] |= byte(p.x.Bit(0)) << 7
	return k
}

// read: what Decode has to answer, found otherwise; false, if there is no such point.
func read(k api.Key) (affine, bool) {
	low := k
	low[31] &= 0x7f
	y, one := bigOf(low), big.NewInt(1)
	if y.Cmp(prime()) >= 0 {
		return affine{}, false
	}
	square := times(y, y)
	x := new(big.Int).ModSqrt(over(new(big.Int).Sub(square, one), new(big.Int).Add(times(bend(), square), one)), prime())
	if x == nil {
		return affine{}, false
	}
	if x.Bit(0) != uint(k[31]>>7) {
		if x.Sign() == 0 {
			return affine{}, false
		}
		x.Sub(prime(), x)
	}
	return affine{x, y}, true
}

// is: whether p is the point with those coordinates, on the curve, with a t that is in keeping.
func is(t *testing.T, what string, p Point, want affine) {
	t.Helper()
	got := at(p)
	if got.x.Cmp(want.x) != 0 || got.y.Cmp(want.y) != 0 {
		t.Fatalf("%s: %x, %x, not %x, %x", what, got.x, got.y, want.x, want.y)
	}
	if p.z.IsZero() || !field.Equal(field.Mul(p.x, p.y), field.Mul(p.z, p.t)) {
		t.Fatalf("%s: z and t", what)
	}
	xx, yy := times(got.x, got.x), times(got.y, got.y)
	if new(big.Int).Sub(mod(new(big.Int).Sub(yy, xx)), mod(new(big.Int).Add(big.NewInt(1), times(bend(), xx, yy)))).Sign() != 0 {
		t.Fatalf("%s: not on the curve", what)
	}
	if p.Encode() != written(want) {
		t.Fatalf("%s: Encode %x, not %x", what, p.Encode(), written(want))
	}
}

// decoded: the point of hexadecimal digits.
func decoded(t testing.TB, s string) Point {
	t.Helper()
	p, e := Decode(key(t, s))
	if e != api.OK {
		t.Fatalf("Decode of %s: %d", s, e)
	}
	return p
}

// tiny: the eight points of which eight times is Zero.
func tiny(t testing.TB) []Point {
	return []Point{
		decoded(t, "0100000000000000000000000000000000000000000000000000000000000000"),
		decoded(t, "ecffffffffffffffffffffffffffffffffffffffffffffffffffffffffffff7f"),
		decoded(t, "0000000000000000000000000000000000000000000000000000000000000000"),
		decoded(t, "0000000000000000000000000000000000000000000000000000000000000080"),
		decoded(t, "26e8958fc2b227b045c3f489f2ef98f0d5dfac05d3c63339b13802886d53fc05"),
		decoded(t, "26e8958fc2b227b045c3f489f2ef98f0d5dfac05d3c63339b13802886d53fc85"),
		decoded(t, "c7176a703d4dd84fba3c0b760d10670f2a2053fa2c39ccc64ec7fd7792ac037a"),
		decoded(t, "c7176a703d4dd84fba3c0b760d10670f2a2053fa2c39ccc64ec7fd7792ac03fa"),
	}
}

// points: the tiny ones, Base and multiples of it, such as are both together, and their opposites.
func points(t testing.TB) []Point {
	list := append(tiny(t), Base())
	for i, k := range chance(4) {
		list = append(list, Base().Multiply(k), Add(Base().Multiply(k), list[1+i]))
	}
	for _, p := range list {
		list = append(list, p.Neg())
	}
	return list
}

// P6.1: the chapter's examples, and what it says of both.
func TestZeroAndBase(t *testing.T) {
	is(t, "Zero", Zero(), nought())
	if Zero().Encode() != (api.Key{1}) {
		t.Errorf("Zero: %x", Zero().Encode())
	}
	base := at(Base())
	if base.y.Cmp(over(big.NewInt(4), big.NewInt(5))) != 0 || base.x.Bit(0) != 0 {
		t.Errorf("Base: %x, %x", base.x, base.y)
	}
	is(t, "Base", Base(), base)
	if Base().Encode() != key(t, "5866666666666666666666666666666666666666666666666666666666666666") {
		t.Errorf("Base: %x", Base().Encode())
	}
	if bigOf(d().Bytes()).Cmp(bend()) != 0 {
		t.Errorf("d: %x", d().Bytes())
	}
}

// P6.1: Decode undoes Encode, whatever z a point has.
func TestDecodeUndoesEncode(t *testing.T) {
	for _, p := range points(t) {
		q, e := Decode(p.Encode())
		if e != api.OK || !Equal(p, q) {
			t.Fatalf("%x: %d", p.Encode(), e)
		}
		is(t, "Decode", q, at(p))
		is(t, "the point itself", p, at(q))
	}
}

// P6.1: keys that are points and keys that are none, about half of each: small y, great y, and y by chance, with both signs.
func TestDecodeOtherwiseFound(t *testing.T) {
	list := chance(300)
	for i := int64(0); i < 100; i++ {
		list = append(list, keyOf(big.NewInt(i)), keyOf(new(big.Int).Sub(prime(), big.NewInt(i))))
	}
	var taken, refused int
	for _, k := range list {
		for range 2 {
			want, ok := read(k)
			p, e := Decode(k)
			if ok != (e == api.OK) || !ok && e != api.ErrPoint {
				t.Fatalf("Decode of %x: %d", k, e)
			}
			if ok {
				taken++
				is(t, "Decode", p, want)
				if p.Encode() != k {
					t.Fatalf("Encode of Decode of %x: %x", k, p.Encode())
				}
			} else {
				refused++
			}
			k[31] ^= 0x80
		}
	}
	if taken < 400 || refused < 400 {
		t.Errorf("%d taken, %d refused", taken, refused)
	}
}

// P6.1: a y from p on is no Encode, though the number that it leaves may be; nor is an odd x that is 0.
func TestDecodeOfNoEncode(t *testing.T) {
	var list []api.Key
	met := 0
	for i := int64(0); i < 19; i++ {
		list = append(list, keyOf(new(big.Int).Add(prime(), big.NewInt(i))))
		if _, e := Decode(api.Key{byte(i)}); e == api.OK {
			met++
		}
	}
	if met == 0 {
		t.Error("none of the numbers that are left is a point's")
	}
	for _, k := range list {
		k[31] |= 0x80
		list = append(list, k)
	}
	list = append(list, api.Key{1, 31: 0x80}, full(), api.Key{2}, api.Key{2, 31: 0x80})
	list = append(list, key(t, "ecffffffffffffffffffffffffffffffffffffffffffffffffffffffffffffff"))
	for _, k := range list {
		if _, e := Decode(k); e != api.ErrPoint {
			t.Errorf("Decode of %x: %d", k, e)
		}
	}
}

// P6.2: each with each, the same point twice, opposites and Zero among them.
func TestAddTwo(t *testing.T) {
	list := points(t)
	for _, p := range list {
		for _, q := range list {
			is(t, "Add", Add(p, q), plus(at(p), at(q)))
		}
		if !Equal(Add(p, p.Neg()), Zero()) || !Equal(Add(p, Zero()), p) || !Equal(Add(Zero(), p), p) {
			t.Fatalf("%x: its opposite, and Zero", p.Encode())
		}
	}
}

// P6.2: none, one, and many.
func TestAddMany(t *testing.T) {
	is(t, "Add of none", Add(), nought())
	is(t, "Add of nil", Add([]Point(nil)...), nought())
	list := points(t)
	sum := nought()
	for i, p := range list {
		is(t, "Add of one", Add(p), at(p))
		sum = plus(sum, at(p))
		is(t, "Add", Add(list[:i+1]...), sum)
	}
	many := make([]Point, 1000)
	for i := range many {
		many[i] = Base()
	}
	is(t, "Add of a thousand", Add(many...), often(big.NewInt(1000), at(Base())))
}

// P6.2: the opposite has the same y.
func TestNeg(t *testing.T) {
	for _, p := range points(t) {
		want := at(p)
		want.x = mod(new(big.Int).Neg(want.x))
		is(t, "Neg", p.Neg(), want)
		if !Equal(p.Neg().Neg(), p) {
			t.Fatalf("%x: Neg of Neg", p.Encode())
		}
	}
}

// P6.2: few times, as often as the order, and with all 256 bits; nothing is taken from the number first.
func TestMultiply(t *testing.T) {
	l := order()
	factors := []*big.Int{bigOf(full()), bigOf(api.Key{31: 0x80}), l, new(big.Int).Sub(l, big.NewInt(1)), new(big.Int).Add(l, big.NewInt(1))}
	for i := int64(0); i <= 9; i++ {
		factors = append(factors, big.NewInt(i), new(big.Int).Mul(l, big.NewInt(i)))
	}
	for _, k := range chance(3) {
		factors = append(factors, bigOf(k))
	}
	list := points(t)
	for _, p := range append(list[:12:12], list[len(list)-6:]...) {
		for _, n := range factors {
			is(t, "Multiply", p.Multiply(keyOf(n)), often(n, at(p)))
		}
	}
}

// P6.2: each of the 256 bits counts for itself.
func TestMultiplyByOneBit(t *testing.T) {
	p := Add(Base(), tiny(t)[4])
	want := at(p)
	for i := range 256 {
		var k api.Key
		k[i/8] = 1 << (i % 8)
		is(t, "Multiply", p.Multiply(k), want)
		want = plus(want, want)
	}
}

// P6.2: a point of the whole group has 8 times the order as its own: to take the order away first would be seen.
func TestMultiplyByTheOrder(t *testing.T) {
	l := keyOf(order())
	if !Equal(Base().Multiply(l), Zero()) {
		t.Error("the order times Base isn't Zero")
	}
	p := Add(Base(), tiny(t)[4])
	if Equal(p.Multiply(l), Zero()) || !p.Multiply(l).Tiny() {
		t.Error("the order times a point of the whole group")
	}
	if !Equal(p.Multiply(keyOf(new(big.Int).Mul(order(), big.NewInt(8)))), Zero()) {
		t.Error("eight times the order times a point of the whole group isn't Zero")
	}
}

// P6.2: held against the library's Ed25519, whose public key is a multiple of Base.
func TestLibrary(t *testing.T) {
	for _, seed := range chance(30) {
		sum := sha512.Sum512(seed[:])
		k := api.Key(sum[:32])
		k[0] &= 248
		k[31] = k[31]&127 | 64
		public := ed25519.NewKeyFromSeed(seed[:]).Public().(ed25519.PublicKey)
		if got := Base().Multiply(k).Encode(); got != api.Key(public) {
			t.Fatalf("%x: %x, not %x", seed, got, public)
		}
	}
}

// P6.3: the same point with another z is the same; one with the same x or the same y alone isn't.
func TestEqual(t *testing.T) {
	list := points(t)
	for _, p := range list {
		for _, q := range list {
			want := at(p).x.Cmp(at(q).x) == 0 && at(p).y.Cmp(at(q).y) == 0
			if Equal(p, q) != want || Equal(q, p) != want {
				t.Errorf("%x and %x: %v", p.Encode(), q.Encode(), Equal(p, q))
			}
		}
		other := Add(p, Base(), Base().Neg())
		if other == p || !Equal(p, other) {
			t.Errorf("%x with another z", p.Encode())
		}
	}
	two := tiny(t)[1]
	for _, p := range list[8:17] {
		sameY, sameX := p.Neg(), Add(p.Neg(), two)
		if at(sameX).x.Cmp(at(p).x) != 0 || at(sameY).y.Cmp(at(p).y) != 0 {
			t.Fatal("not the points that were meant")
		}
		if Equal(p, sameX) || Equal(p, sameY) || Equal(p, Add(p, two)) {
			t.Errorf("%x: another point is taken for it", p.Encode())
		}
	}
}

// P6.3: eight points are tiny; none that is together with Base, and no multiple of the order but by eight.
func TestTiny(t *testing.T) {
	met := map[api.Key]int{}
	for _, p := range tiny(t) {
		met[p.Encode()]++
		other := Add(p, Base(), Base().Neg())
		if !p.Tiny() || !other.Tiny() || !p.Neg().Tiny() {
			t.Errorf("%x isn't Tiny", p.Encode())
		}
		if q := Add(p, Base()); q.Tiny() {
			t.Errorf("%x is Tiny", q.Encode())
		}
	}
	if len(met) != 8 {
		t.Errorf("%d tiny points", len(met))
	}
	for _, p := range points(t) {
		if p.Tiny() != (met[p.Encode()] > 0) || p.Tiny() != (at(p.Multiply(api.Key{8})).x.Sign() == 0 && Equal(p.Multiply(api.Key{8}), Zero())) {
			t.Errorf("%x: Tiny %v", p.Encode(), p.Tiny())
		}
	}
	eighth := tiny(t)[4]
	if Equal(eighth.Multiply(api.Key{4}), Zero()) {
		t.Error("no point is tiny by eight times alone")
	}
}

// P1: the zero Point, and what stands beside ErrPoint, are taken, though nothing is promised of the answers.
func TestZeroValueEnds(t *testing.T) {
	wrong, _ := Decode(api.Key{2})
	for _, p := range []Point{{}, wrong} {
		p.Encode()
		p.Neg()
		p.Multiply(full())
		p.Tiny()
		Add(p, Base(), p)
		Equal(p, Base())
	}
}

// P2: a list that is handed in stays as it is, its spare room too, and what was answered stays when the list is changed.
func TestListsAreNeitherChangedNorKept(t *testing.T) {
	room := points(t)
	before := append([]Point{}, room...)
	sum := Add(room[:10]...)
	k := sum.Encode()
	for i, p := range room {
		if p != before[i] {
			t.Fatalf("point %d was changed", i)
		}
	}
	clear(room)
	if sum.Encode() != k || Add(before[:10]...) != sum {
		t.Error("the list was kept")
	}
}

// P2: no call changes the point that it is asked of.
func TestPointsStayAsTheyAre(t *testing.T) {
	for _, p := range points(t) {
		q := p
		p.Encode()
		p.Neg()
		p.Multiply(api.Key{7})
		p.Tiny()
		Add(p, p)
		Equal(p, Base())
		if p != q {
			t.Fatalf("%x became %x", q.Encode(), p.Encode())
		}
	}
}

func BenchmarkMultiply(b *testing.B) {
	p, k := Base(), chance(1)[0]
	for b.Loop() {
		p = p.Multiply(k)
	}
}

func BenchmarkDecode(b *testing.B) {
	k := Base().Encode()
	for b.Loop() {
		Decode(k)
	}
}
