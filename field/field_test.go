package field

import (
	"math/big"
	"math/rand"
	"testing"

	"intaglio/api"
)

// prime: 2^255 - 19.
func prime() *big.Int {
	p := new(big.Int).Lsh(big.NewInt(1), 255)
	return p.Sub(p, big.NewInt(19))
}

// mod: what n leaves modulo p.
func mod(n *big.Int) *big.Int { return new(big.Int).Mod(n, prime()) }

// bigOf: the number of 32 bytes, the lowest first.
func bigOf(k api.Key) *big.Int {
	var turned [32]byte
	for i, b := range k {
		turned[31-i] = b
	}
	return new(big.Int).SetBytes(turned[:])
}

// keyOf: the 32 bytes of a number, the lowest first.
func keyOf(n *big.Int) api.Key {
	var k, turned api.Key
	n.FillBytes(turned[:])
	for i, b := range turned {
		k[31-i] = b
	}
	return k
}

// value: the number that the parts of an Elem are, not reduced.
func value(x Elem) *big.Int {
	n := new(big.Int)
	for i := 4; i >= 0; i-- {
		n.Lsh(n, 51)
		n.Add(n, new(big.Int).SetUint64(x.part[i]))
	}
	return n
}

// edges: keys about 0, about p, about 2p, about each power of two of a part, and the greatest ones.
func edges() []api.Key {
	var list []api.Key
	about := func(n *big.Int) {
		for d := int64(-20); d <= 20; d++ {
			m := new(big.Int).Add(n, big.NewInt(d))
			if m.Sign() >= 0 && m.BitLen() <= 256 {
				list = append(list, keyOf(m))
			}
		}
	}
	about(new(big.Int))
	about(prime())
	about(new(big.Int).Lsh(prime(), 1))
	for _, shift := range []uint{51, 102, 153, 204, 254, 255, 256} {
		about(new(big.Int).Lsh(big.NewInt(1), shift))
	}
	about(new(big.Int).Rsh(prime(), 1))
	return list
}

// chance: n keys, always the same.
func chance(n int) []api.Key {
	r := rand.New(rand.NewSource(3))
	list := make([]api.Key, n)
	for i := range list {
		r.Read(list[i][:])
	}
	return list
}

// elems: numbers of few and of many bits, and such as have parts as great as a call leaves them at most.
func elems() []Elem {
	const most, lowest = 1<<51 - 1 + 1<<13 - 1, 1<<51 - 1 + 19*(1<<13-1)
	list := []Elem{
		{},
		{[5]uint64{lowest, most, most, most, most}},
		{[5]uint64{0, most, 0, most, 0}},
		{[5]uint64{lowest, 0, most, 0, most}},
		{[5]uint64{lowest}},
		{[5]uint64{1 << 51}},
		{[5]uint64{1<<51 - 19, 1<<51 - 1, 1<<51 - 1, 1<<51 - 1, 1<<51 - 1}},
		{[5]uint64{1<<51 + 19, 1<<51 - 1, 1<<51 - 1, 1<<51 - 1, 1<<51 - 1}},
		{[5]uint64{4: 1 << 51}},
	}
	for _, k := range edges()[:70] {
		list = append(list, Of(k))
	}
	for _, k := range chance(20) {
		list = append(list, Of(k))
	}
	return list
}

// is: whether x is the number n modulo p, and has parts as small as the next call takes them.
func is(t *testing.T, what string, x Elem, n *big.Int) {
	t.Helper()
	for i, p := range x.part {
		if p >= 1<<51+1<<18 {
			t.Fatalf("%s: part %d is %d", what, i, p)
		}
	}
	want := mod(n)
	if k := x.Bytes(); k != keyOf(want) {
		t.Fatalf("%s: %x, not %x", what, k, keyOf(want))
	}
	if mod(value(x)).Cmp(want) != 0 {
		t.Fatalf("%s: the parts are %d", what, x.part)
	}
}

// P3.1: small numbers, the zero Elem among them.
func TestSmall(t *testing.T) {
	is(t, "the zero Elem", Elem{}, new(big.Int))
	for _, n := range []uint32{0, 1, 2, 18, 19, 255, 256, 65535, 1 << 31, 1<<32 - 1} {
		is(t, "Small", Small(n), big.NewInt(int64(n)))
	}
}

// P3.1: the highest bit doesn't count; p and all from there on are what they leave; Canonical are those below p alone.
func TestOfAndCanonical(t *testing.T) {
	for _, k := range append(edges(), chance(500)...) {
		low := k
		low[31] &= 0x7f
		is(t, "Of", Of(k), bigOf(low))
		if Canonical(k) != (bigOf(k).Cmp(prime()) < 0) {
			t.Errorf("Canonical of %x: %v", k, Canonical(k))
		}
	}
	for i := range 256 {
		var k api.Key
		k[i/8] = 1 << (i % 8)
		want := bigOf(k)
		if i == 255 {
			want = new(big.Int)
		}
		is(t, "Of one bit", Of(k), want)
		if Canonical(k) != (i < 255) {
			t.Errorf("Canonical of bit %d: %v", i, Canonical(k))
		}
	}
}

// P3.1: all 19 numbers that have 255 bits and aren't below p, with the highest bit and without.
func TestNumbersFromPOn(t *testing.T) {
	for d := range 19 {
		k := keyOf(new(big.Int).Add(prime(), big.NewInt(int64(d))))
		for range 2 {
			if Of(k).Bytes() != (api.Key{byte(d)}) || Canonical(k) || Of(k).IsZero() != (d == 0) || Of(k).Odd() != (d%2 == 1) || !Equal(Of(k), Small(uint32(d))) {
				t.Errorf("p and %d more: %x", d, Of(k).Bytes())
			}
			k[31] |= 0x80
		}
	}
	last := keyOf(new(big.Int).Sub(prime(), big.NewInt(1)))
	if !Canonical(last) || Of(last).Bytes() != last || Of(last).IsZero() || Of(last).Odd() {
		t.Error("p less 1")
	}
}

// P3.1: what is asked of a number is asked of the least that is alike.
func TestIsZeroOddEqual(t *testing.T) {
	list := elems()
	for _, x := range list {
		n := mod(value(x))
		if x.IsZero() != (n.Sign() == 0) || x.Odd() != (n.Bit(0) == 1) {
			t.Errorf("%d: IsZero %v, Odd %v", x.part, x.IsZero(), x.Odd())
		}
		if x.Bytes() != keyOf(n) || !Canonical(x.Bytes()) {
			t.Errorf("%d: Bytes %x", x.part, x.Bytes())
		}
		for _, y := range list {
			if Equal(x, y) != (n.Cmp(mod(value(y))) == 0) {
				t.Errorf("%d and %d: Equal %v", x.part, y.part, Equal(x, y))
			}
		}
	}
	// Alike, and not of the same parts.
	zero := Elem{[5]uint64{1<<51 - 19, 1<<51 - 1, 1<<51 - 1, 1<<51 - 1, 1<<51 - 1}}
	if !zero.IsZero() || zero.Odd() || !Equal(zero, Elem{}) || Equal(zero, Small(1)) {
		t.Error("p isn't alike 0")
	}
}

// P3.2: each number with each other one.
func TestReckonTwo(t *testing.T) {
	list := elems()
	for _, x := range list {
		n := value(x)
		is(t, "Neg", x.Neg(), new(big.Int).Neg(n))
		for _, y := range list {
			m := value(y)
			is(t, "Add", Add(x, y), new(big.Int).Add(n, m))
			is(t, "Sub", Sub(x, y), new(big.Int).Sub(n, m))
			is(t, "Mul", Mul(x, y), new(big.Int).Mul(n, m))
			is(t, "Product", Product(x, y), new(big.Int).Mul(n, m))
		}
	}
}

// P3.2: none, one, three and many.
func TestReckonMany(t *testing.T) {
	is(t, "Add of none", Add(), new(big.Int))
	is(t, "Product of none", Product(), big.NewInt(1))
	is(t, "Add of nil", Add([]Elem(nil)...), new(big.Int))
	is(t, "Product of nil", Product([]Elem(nil)...), big.NewInt(1))
	list := elems()
	sum, product := new(big.Int), big.NewInt(1)
	for i, x := range list {
		is(t, "Add of one", Add(x), value(x))
		is(t, "Product of one", Product(x), value(x))
		sum.Add(sum, value(x))
		is(t, "Add", Add(list[:i+1]...), sum)
	}
	for i, x := range list[1:] {
		if x.IsZero() {
			x = Small(3)
			list[1+i] = x
		}
		product = mod(product.Mul(product, value(x)))
		is(t, "Product", Product(list[1:2+i]...), product)
	}
	is(t, "Product with a nought", Product(list...), new(big.Int))
}

// P3.2: very many of the greatest: nothing runs over.
func TestAddOfVeryMany(t *testing.T) {
	greatest := elems()[1]
	const n = 20000
	list := make([]Elem, n)
	for i := range list {
		list[i] = greatest
	}
	is(t, "Add", Add(list...), new(big.Int).Mul(value(greatest), big.NewInt(n)))
}

// P3.2: calls one behind the other, each of what the last ones answered.
func TestReckonInARow(t *testing.T) {
	r := rand.New(rand.NewSource(7))
	list := elems()
	x, n := list[1], value(list[1])
	for range 20000 {
		y := list[r.Intn(len(list))]
		m := value(y)
		switch r.Intn(6) {
		case 0:
			x, n = Add(x, y, x), new(big.Int).Add(new(big.Int).Add(n, m), n)
		case 1:
			x, n = Sub(x, y), new(big.Int).Sub(n, m)
		case 2:
			x, n = Sub(y, x), new(big.Int).Sub(m, n)
		case 3:
			x, n = x.Neg(), new(big.Int).Neg(n)
		case 4:
			x, n = Mul(x, x), new(big.Int).Mul(n, n)
		case 5:
			x, n = Product(y, x), new(big.Int).Mul(m, n)
		}
		if n = mod(n); n.Sign() == 0 {
			x, n = list[1], value(list[1])
		}
		is(t, "a row of calls", x, n)
	}
}

// P3.3: all 256 bits count, and to the power 0 all are 1, 0 too.
func TestPower(t *testing.T) {
	var full api.Key
	for i := range full {
		full[i] = 0xff
	}
	powers := append([]api.Key{{}, {1}, {2}, {3}, {0, 1}, {31: 0x80}, {31: 0x40}, full, keyOf(prime())}, chance(3)...)
	for _, x := range elems() {
		for _, k := range powers {
			want := new(big.Int).Exp(mod(value(x)), bigOf(k), prime())
			if bigOf(k).Sign() == 0 {
				want = big.NewInt(1)
			}
			is(t, "Power", x.Power(k), want)
		}
	}
	for i := range 256 {
		var k api.Key
		k[i/8] = 1 << (i % 8)
		is(t, "Power of one bit", Small(3).Power(k), new(big.Int).Exp(big.NewInt(3), bigOf(k), prime()))
	}
	if !Equal(Elem{}.Power(api.Key{}), Small(1)) || !(Elem{}).Power(api.Key{1}).IsZero() || !Of(keyOf(prime())).Power(api.Key{9}).IsZero() {
		t.Error("powers of 0")
	}
}

// P3.3: of 0, and of what is alike 0, it is 0.
func TestInvert(t *testing.T) {
	for _, x := range elems() {
		n := mod(value(x))
		if n.Sign() == 0 {
			is(t, "Invert of 0", x.Invert(), n)
			continue
		}
		is(t, "Invert", x.Invert(), new(big.Int).ModInverse(n, prime()))
		is(t, "a number times its Invert", Mul(x, x.Invert()), big.NewInt(1))
	}
}

// wantRoot: what Root has to answer, found otherwise: by a division and a root modulo p.
func wantRoot(u, v *big.Int) (*big.Int, bool) {
	u, v = mod(u), mod(v)
	if v.Sign() == 0 {
		return new(big.Int), u.Sign() == 0
	}
	quotient := mod(new(big.Int).Mul(u, new(big.Int).ModInverse(v, prime())))
	x := new(big.Int).ModSqrt(quotient, prime())
	if x == nil {
		return new(big.Int), false
	}
	if x.Bit(0) == 1 {
		x.Sub(prime(), x)
	}
	return x, true
}

// P3.4: roots and no roots, of all four kinds of quotients, with noughts for u, for v and for both.
func TestRoot(t *testing.T) {
	list := elems()
	some := append(append([]Elem{}, list[:12]...), list[40:60]...)
	some = append(some, Small(2), Small(4), Small(9), Small(1).Neg(), Small(2).Neg(), Small(4).Neg())
	kinds := map[string]int{}
	for _, u := range some {
		for _, v := range some {
			want, ok := wantRoot(value(u), value(v))
			x, found := Root(u, v)
			if found != ok || x.Odd() {
				t.Fatalf("Root of %x and %x: %v, odd %v", u.Bytes(), v.Bytes(), found, x.Odd())
			}
			is(t, "Root", x, want)
			if ok && !Equal(Product(v, x, x), u) {
				t.Fatalf("Root of %x and %x: its square times v isn't u", u.Bytes(), v.Bytes())
			}
			if !ok && x != (Elem{}) {
				t.Fatalf("Root of %x and %x: %x and false", u.Bytes(), v.Bytes(), x.Bytes())
			}
			kind := "no root"
			if ok && Equal(Product(v, candidate(u, v), candidate(u, v)), u) {
				kind = "at once"
			} else if ok {
				kind = "by the root of -1"
			}
			kinds[kind]++
		}
	}
	if len(kinds) != 3 {
		t.Errorf("not all kinds were met: %v", kinds)
	}
}

// P3.4: the edges that the document names.
func TestRootOfNoughts(t *testing.T) {
	zero := Of(keyOf(prime()))
	for _, z := range []Elem{{}, zero} {
		if x, ok := Root(z, z); !ok || !x.IsZero() {
			t.Error("Root of 0 and 0")
		}
		if x, ok := Root(Small(1), z); ok || x != (Elem{}) {
			t.Error("Root of 1 and 0")
		}
		if x, ok := Root(z, Small(2)); !ok || !x.IsZero() {
			t.Error("Root of 0 and 2")
		}
	}
	if x, ok := Root(Small(1).Neg(), Small(1)); !ok || x.Odd() || !Equal(Mul(x, x), Small(1).Neg()) {
		t.Error("Root of -1")
	}
	if x, ok := Root(Small(1), Small(1)); !ok || !Equal(x, Small(1).Neg()) {
		t.Errorf("Root of 1: %x", x.Bytes())
	}
	if x, ok := Root(Small(4), Small(1)); !ok || !Equal(x, Small(2)) {
		t.Errorf("Root of 4: %x", x.Bytes())
	}
}

// P3.4: turned about, or not.
func TestSwap(t *testing.T) {
	for i, x := range elems() {
		y := Small(uint32(i))
		if a, b := Swap(true, x, y); !Equal(a, y) || !Equal(b, x) {
			t.Error("Swap that turns")
		}
		if a, b := Swap(false, x, y); !Equal(a, x) || !Equal(b, y) {
			t.Error("Swap that doesn't turn")
		}
	}
}

// P2: a list that is handed in stays as it is, its spare room too, and what was answered stays when the list is changed.
func TestListsAreNeitherChangedNorKept(t *testing.T) {
	room := elems()
	before := append([]Elem{}, room...)
	list := room[:10]
	sum, product := Add(list...), Product(list[1:]...)
	sumBytes, productBytes := sum.Bytes(), product.Bytes()
	for i, x := range room {
		if x != before[i] {
			t.Fatalf("number %d was changed", i)
		}
	}
	clear(room)
	if sum.Bytes() != sumBytes || product.Bytes() != productBytes {
		t.Error("the list was kept")
	}
	if again := Add(before[:10]...); again != sum {
		t.Error("Add answers otherwise the second time")
	}
}

// P2: no call changes the number that it is asked of.
func TestNumbersStayAsTheyAre(t *testing.T) {
	for _, x := range elems() {
		y := x
		x.Bytes()
		x.IsZero()
		x.Odd()
		x.Neg()
		x.Power(api.Key{7})
		x.Invert()
		Equal(x, x)
		Add(x, x)
		Sub(x, x)
		Mul(x, x)
		Root(x, x)
		Swap(true, x, Small(1))
		if x != y {
			t.Fatalf("%d became %d", y.part, x.part)
		}
	}
}

func BenchmarkMul(b *testing.B) {
	x := elems()[1]
	for b.Loop() {
		x = Mul(x, x)
	}
}

func BenchmarkInvert(b *testing.B) {
	x := elems()[1]
	for b.Loop() {
		x = x.Invert()
	}
}
