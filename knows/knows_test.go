package knows

import (
	"math/rand"
	"slices"
	"strings"
	"testing"

	"intaglio/api"
	"intaglio/term"
)

// knowing: what somebody knows who learnt some texts.
func knowing(t *testing.T, list ...string) *Known {
	t.Helper()
	k, e := New(read(t, list...)...)
	if e != api.OK {
		t.Fatalf("%q: %v", list, e)
	}
	return k
}

// The limit is the chapter's.
func TestLimit(t *testing.T) {
	if MaxTerms != 4000 {
		t.Error(MaxTerms)
	}
}

// P20.2: each rule by itself: what is known, what can be made, what can't, and what is known taken apart.
func TestRules(t *testing.T) {
	for _, c := range []struct{ known, makes, not, terms string }{
		{"k s(k,a) s(l,b)", "a k p(a,k) s(k,a) s(l,b) s(a,k) hx(a)", "b l s(l,a) p(a,b) s(k,b)", "a k s(k,a) s(l,b)"},
		{"", "", "a nothing ^(a) hk(a) p(a,a) =(a,a) ~(a,a)", ""},
		{"a", "a p(a,a) p(p(a,a),a) s(a,a) hk(a) hk(a,a,a,a) ^(a) ^(^(a)) =(a,a) ~(a,a) ~(a,^(a)) g(a,a)", "b hk(b) p(a,b) p(b,a) s(a,b) s(b,a) g(a,b) g(b,a) ~(a,b) ~(b,a) =(a,b) ^(b) hk(a,a,a,b) hk(b,a)", "a"},
		// a Pair, both its terms, however deep
		{"p(a,b)", "a b p(b,a) p(a,p(b,a))", "c", "a b p(a,b)"},
		{"p(p(a,p(b,c)),d)", "a b c d p(b,c)", "e", "a b c d p(a,p(b,c)) p(b,c) p(p(a,p(b,c)),d)"},
		// a Sign, its second term
		{"g(a,b)", "b g(a,b) hk(g(a,b))", "a g(a,a) g(a,c) ^(a)", "b g(a,b)"},
		{"g(z,p(a,g(y,b)))", "a b p(b,a)", "z y", "a b p(a,g(y,b)) g(y,b) g(z,p(a,g(y,b)))"},
		{"^(a) g(a,b)", "b ^(a)", "a g(a,^(a))", "b ^(a) g(a,b)"},
		// a Seal, if the key can be made
		{"s(k,a)", "s(k,a)", "k a", "s(k,a)"},
		{"s(k,a) a", "a s(a,a)", "k s(k,k)", "a s(k,a)"},
		{"s(k,p(a,b)) k", "a b k", "", "a b k p(a,b) s(k,p(a,b))"},
		{"s(p(k,l),a) k l", "a", "", "a k l s(p(k,l),a)"},
		{"s(p(k,l),a) k", "k", "a l", "k s(p(k,l),a)"},
		{"s(hk(k,l),a) k l", "a hk(k,l) hk(a)", "hk(m)", "a k l s(hk(k,l),a)"},
		{"s(hk(k,l),a) hk(k,l)", "a", "k l hk(l,k)", "a s(hk(k,l),a) hk(k,l)"},
		{"s(hk(k,l),a) hk(l,k)", "hk(l,k)", "a", "s(hk(k,l),a) hk(l,k)"},
		{"s(hj(k),a) k hk(k)", "a hj(k)", "", "a k s(hj(k),a) hk(k)"},
		{"s(^(k),a) k", "a", "", "a k s(^(k),a)"},
		{"s(^(k),a) ^(k)", "a", "k", "a s(^(k),a) ^(k)"},
		{"s(s(k,l),a) s(k,l)", "a", "k l", "a s(k,l) s(s(k,l),a)"},
		{"s(g(k,l),a) g(k,l)", "a l", "k", "a l s(g(k,l),a) g(k,l)"},
		{"s(a,a)", "s(a,a)", "a", "s(a,a)"},
		// one Seal holds the key of another, in whatever order
		{"s(a,b) s(b,c) s(c,d) a", "a b c d", "e", "a b c d s(a,b) s(b,c) s(c,d)"},
		{"s(c,d) s(b,c) s(d,e) s(a,b) a", "a b c d e", "f", "a b c d e s(a,b) s(b,c) s(c,d) s(d,e)"},
		{"s(a,s(b,s(c,d))) c b a", "d", "", "a b c d s(a,s(b,s(c,d))) s(b,s(c,d)) s(c,d)"},
		{"s(p(b,c),d) s(a,b) p(a,s(b,c))", "d", "", "a b c d p(a,s(b,c)) s(a,b) s(b,c) s(p(b,c),d)"},
		{"s(s(k,m),a) k s(k,m)", "a m", "", "a k m s(k,m) s(s(k,m),a)"},
		{"s(a,b) s(b,a)", "s(a,b)", "a b", "s(a,b) s(b,a)"},
		// what two keys agree on: of one of them, and the public one of the other
		{"a ^(b)", "=(a,b) =(b,a) ~(a,^(b)) ~(b,^(a)) ^(a) hk(=(b,a)) =(a,^(b)) =(a,a)", "b =(b,b) =(b,c) ~(a,b)", "a ^(b)"},
		{"b ^(a)", "=(a,b) =(b,a) ~(a,^(b)) ~(b,^(a)) ^(b)", "a ~(a,b)", "b ^(a)"},
		{"^(a) ^(b)", "^(^(a))", "=(a,b) ~(a,^(b)) a b", "^(a) ^(b)"},
		{"a b", "=(a,b)", "=(a,c) =(c,c)", "a b"},
		{"a", "=(a,a)", "=(a,b)", "a"},
		{"^(a)", "^(a)", "=(a,a) a", "^(a)"},
		{"=(a,b)", "=(b,a) ~(a,^(b)) hk(=(a,b))", "a b ^(a) ^(b)", "=(a,b)"},
		{"~(b,^(a))", "=(b,a) ~(a,^(b))", "a b", "=(a,b)"},
		{"p(a,b) ^(c)", "=(p(a,b),c) =(a,c) =(c,p(b,a))", "=(c,d) c", "a b p(a,b) ^(c)"},
		{"a ^(=(b,c))", "=(a,=(c,b)) ~(a,^(~(c,^(b))))", "=(b,c) =(b,=(b,c))", "a ^(=(b,c))"},
		{"s(=(a,b),c) a ^(b)", "c", "b", "a c s(=(a,b),c) ^(b)"},
		{"s(~(b,^(a)),c) a ^(b)", "c s(=(a,b),c)", "b", "a c s(=(a,b),c) ^(b)"},
		{"s(=(a,b),c) b ^(a)", "c", "a", "b c s(=(a,b),c) ^(a)"},
		{"s(=(a,b),c) ^(b) ^(a)", "^(a)", "a c", "s(=(a,b),c) ^(a) ^(b)"},
		{"s(k,^(b)) s(=(a,b),k) a b", "k", "", "a b k s(k,^(b)) s(=(a,b),k) ^(b)"},
		{"s(k,^(b)) a k", "=(a,b)", "b", "a k s(k,^(b)) ^(b)"},
		// an Agree that is none with a public key is like a Hash
		{"~(a,b)", "~(a,b) hk(~(a,b))", "a b =(a,b) ~(b,a)", "~(a,b)"},
		{"a b", "~(a,b) ~(b,a) ~(^(a),b)", "~(a,c)", "a b"},
		{"a ^(b)", "~(^(b),a)", "~(b,a)", "a ^(b)"},
		// what is a Hash, a Public, a Shared or an Agree isn't taken apart
		{"hk(a,b)", "hk(a,b)", "a b hk(b,a) hk(a) hj(a,b)", "hk(a,b)"},
		{"^(a)", "^(a) ^(^(a)) hk(^(a))", "a", "^(a)"},
		// each in its one form, and each once
		{"a a p(a,a) =(b,a) =(a,b) ~(a,^(b))", "a", "b", "a p(a,a) =(a,b)"},
	} {
		k := knowing(t, strings.Fields(c.known)...)
		for _, x := range read(t, strings.Fields(c.makes)...) {
			if !k.Makes(x) {
				t.Errorf("%s: not %v", c.known, x)
			}
		}
		for _, x := range read(t, strings.Fields(c.not)...) {
			if k.Makes(x) {
				t.Errorf("%s: %v", c.known, x)
			}
		}
		if got := texts(k.Terms()); !slices.Equal(got, strings.Fields(c.terms)) {
			t.Errorf("%s: %q", c.known, got)
		}
	}
}

// held: that what is known is what the words say, and of a world what can be made.
func held(t *testing.T, k *Known, w *world, known ...term.Term) {
	t.Helper()
	made := w.makes(known...)
	for i, x := range w.terms {
		if k.Makes(x) != made[w.texts[i]] {
			t.Fatalf("%q: %s: not %v", texts(known), w.texts[i], made[w.texts[i]])
		}
	}
	if got, want := texts(k.Terms()), w.known(made, known...); !slices.Equal(got, want) {
		t.Fatalf("%q: %q, not %q", texts(known), got, want)
	}
}

// P20.1 and P20.2: all terms of two names that lie in at most two others, held against the words.
func TestAllSmall(t *testing.T) {
	rng := rand.New(rand.NewSource(1))
	all := newWorld(small(2)...)
	for i := range 60 {
		var known []term.Term
		for range 1 + i%6 {
			known = append(known, all.terms[rng.Intn(len(all.terms))])
		}
		k, e := New(known...)
		if e != api.OK {
			t.Fatal(e)
		}
		held(t, k, all, known...)
	}
}

// P20.1 and P20.2: all pairs of terms of two names that lie in at most one other.
func TestAllPairs(t *testing.T) {
	all := newWorld(small(1)...)
	for _, x := range all.terms {
		for _, y := range all.terms {
			k, e := New(x, y)
			if e != api.OK {
				t.Fatal(e)
			}
			held(t, k, all, x, y)
		}
	}
}

// P20.1 and P20.2: many terms of all sorts, learnt at once, one by one, in another order and more than once.
func TestAnyInAnyOrder(t *testing.T) {
	rng := rand.New(rand.NewSource(2))
	for range 400 {
		var known, asked []term.Term
		for range rng.Intn(14) {
			known = append(known, chance(rng, 1+rng.Intn(4)))
		}
		for range 20 {
			asked = append(asked, chance(rng, 3))
		}
		w := newWorld(append(asked, known...)...)
		k, e := New(known...)
		if e != api.OK {
			t.Fatal(e)
		}
		held(t, k, w, known...)
		for _, x := range asked { // as they are told, not in their one form
			if k.Makes(x) != k.Makes(x.Normal()) {
				t.Fatal(x)
			}
		}
		l, _ := New()
		for i, at := range rng.Perm(len(known)) {
			if e := l.Learn(known[at], known[at]); e != api.OK {
				t.Fatal(e)
			}
			if i == len(known)/2 {
				l.Learn()
				l.Learn(l.Terms()...)
			}
		}
		held(t, l, w, known...)
	}
}

// P20.2: what is known later opens what was known.
func TestLearnLater(t *testing.T) {
	k := knowing(t, "s(hk(=(a,b)),secret)", "^(b)", "s(l,other)", "g(z,plain)")
	known := read(t, "s(hk(=(a,b)),secret)", "^(b)", "s(l,other)", "g(z,plain)")
	w := newWorld(append(read(t, "~(a,^(b))", "hx(a,secret)", "p(l,other)", "p(l,m)", "x"), known...)...)
	held(t, k, w, known...)
	for _, x := range read(t, "a", "x", "p(l,m)") {
		if e := k.Learn(x); e != api.OK {
			t.Fatal(e)
		}
		known = append(known, x)
		held(t, k, w, known...)
	}
}

// others: terms that are none, with the error of each.
func others() map[api.Errno][]term.Term {
	deep, wide := term.Of("a"), term.Term{Kind: term.Hash, Name: "a", Args: make([]term.Term, 1000)}
	for range 25 {
		deep = term.Term{Kind: term.Public, Args: []term.Term{deep}}
	}
	return map[api.Errno][]term.Term{
		api.ErrLong: {deep, wide, {Kind: 99, Args: []term.Term{deep}}},
		api.ErrTerm: {{}, {Kind: 99}, term.Of("A"), term.Of(""), {Kind: term.Pair, Args: []term.Term{term.Of("a")}}, {Kind: term.Seal}, {Kind: term.Shared}, {Kind: term.Agree, Args: make([]term.Term, 2)}},
	}
}

// P20.1: what is no term isn't learnt, and nothing beside it; the first one's error.
func TestLearnOfOthers(t *testing.T) {
	good := read(t, "a", "s(b,c)", "b")
	k := knowing(t, "k", "s(a,x)")
	was := texts(k.Terms())
	for want, list := range others() {
		for _, bad := range list {
			for other, rest := range others() {
				for _, terms := range [][]term.Term{{bad}, {bad, good[0]}, {good[0], bad}, append(slices.Clone(good), bad, rest[0]), {bad, rest[0], rest[1]}} {
					if e := k.Learn(terms...); e != want {
						t.Errorf("%v, not %v (ahead of %v)", e, want, other)
					}
					if l, e := New(terms...); l != nil || e != want {
						t.Errorf("New: %v, %v", l, e)
					}
				}
			}
			if k.Makes(bad) {
				t.Error("makes what is no term")
			}
		}
	}
	if !slices.Equal(texts(k.Terms()), was) || k.Makes(read(t, "a")[0]) || k.Makes(read(t, "x")[0]) {
		t.Errorf("changed: %q", texts(k.Terms()))
	}
}

// full: what somebody knows who knows so many terms: names, and a Seal whose key isn't known.
func full(t *testing.T, count int) *Known {
	t.Helper()
	k, e := New(numbered(0, count-1)...)
	if e != api.OK {
		t.Fatal(e)
	}
	if e := k.Learn(read(t, "s(key,p(x,y))")...); e != api.OK || len(k.Terms()) != count {
		t.Fatal(e)
	}
	return k
}

// P20.1: as many as may be known, taken apart, and no more; what is refused is not known, nor what comes of it.
func TestFull(t *testing.T) {
	for _, c := range []struct {
		count int
		list  string
		want  api.Errno
	}{
		{3999, "a", api.OK},
		{4000, "a", api.ErrFull},
		{4000, "n0000", api.OK},
		{4000, "", api.OK},
		{4000, "n0000 n3998 s(key,p(x,y))", api.OK},
		{4000, "^(n0000)", api.ErrFull}, // it can be made, but isn't known
		{3998, "a b", api.OK},
		{3999, "a b", api.ErrFull},
		{3998, "a b a b a n0000", api.OK},
		{3997, "p(a,b)", api.OK},
		{3998, "p(a,b)", api.ErrFull},
		{3998, "p(a,a)", api.OK},
		{3999, "p(n0000,n0001)", api.OK},
		{3999, "p(n0000,a)", api.ErrFull},
		{3998, "g(a,b)", api.OK},
		{3999, "g(a,b)", api.ErrFull},
		{3999, "g(a,n0000)", api.OK},
		{3999, "s(a,b)", api.OK},
		{3999, "s(n0000,n0001)", api.OK},
		{3999, "s(n0000,b)", api.ErrFull},
		{3998, "s(n0000,b)", api.OK},
		{3996, "key", api.OK}, // it opens what is known: three terms more
		{3997, "key", api.ErrFull},
		{3997, "key x", api.ErrFull},
		{3999, "=(b,a) ~(a,^(b)) =(a,b)", api.OK},
		{3999, "=(b,a) ~(a,b)", api.ErrFull},
	} {
		k := full(t, c.count)
		was := texts(k.Terms())
		list := read(t, strings.Fields(c.list)...)
		if e := k.Learn(list...); e != c.want {
			t.Errorf("%d and %s: %v", c.count, c.list, e)
			continue
		}
		if c.want == api.OK {
			if len(k.Terms()) > 4000 {
				t.Error("too many")
			}
			continue
		}
		if !slices.Equal(texts(k.Terms()), was) || k.Makes(read(t, "a")[0]) || k.Makes(read(t, "x")[0]) {
			t.Errorf("%d and %s: changed", c.count, c.list)
		}
		if l, e := New(append(k.Terms(), list...)...); l != nil || e != api.ErrFull {
			t.Errorf("%d and %s: New: %v", c.count, c.list, e)
		}
		if e := k.Learn(append(list, term.Of("A"))...); e != api.ErrTerm {
			t.Errorf("%d and %s: %v ahead of what is no term", c.count, c.list, e)
		}
	}
}

// P20.1: what was refused for lack of room leaves nothing behind that could be opened later.
func TestFullThenMore(t *testing.T) {
	k := full(t, 3997)
	if e := k.Learn(read(t, "s(late,secret)", "key", "p(c,d)")...); e != api.ErrFull {
		t.Fatal(e)
	}
	if e := k.Learn(read(t, "late")...); e != api.OK {
		t.Fatal(e)
	}
	if len(k.Terms()) != 3998 || k.Makes(term.Of("secret")) || k.Makes(term.Of("key")) || k.Makes(term.Of("c")) {
		t.Error("something was left behind")
	}
	if e := k.Learn(read(t, "key")...); e != api.ErrFull {
		t.Fatal(e)
	}
	if e := k.Learn(read(t, "s(late,secret)")...); e != api.OK || !k.Makes(term.Of("secret")) || len(k.Terms()) != 4000 {
		t.Error(e)
	}
}

// P20.1: very many terms, of which most come again and again, or which are far too many.
func TestVeryMany(t *testing.T) {
	list := numbered(0, 4000)
	k, e := New(slices.Repeat(list, 50)...)
	if e != api.OK || len(k.Terms()) != 4000 {
		t.Fatal(e)
	}
	var pairs []term.Term
	for i := range 500000 {
		pairs = append(pairs, term.Pairs(list[i%4000], list[i/4000]))
	}
	if k, e := New(pairs...); k != nil || e != api.ErrFull {
		t.Error(e)
	}
	if e := k.Learn(pairs...); e != api.ErrFull || len(k.Terms()) != 4000 {
		t.Error(e)
	}
}

// chain: Seals each of which holds the key of the next, in an order in which each comes too late.
func chain(count int) []term.Term {
	keys := numbered(0, count+1)
	var list []term.Term
	for i := range count {
		list = append(list, term.Term{Kind: term.Seal, Args: []term.Term{keys[i], keys[i+1]}})
	}
	slices.Reverse(list)
	return list
}

// P20.2: a long way from one key to the last, and one that is a step too long.
func TestLongWay(t *testing.T) {
	list := chain(1999)
	k, e := New(list...)
	if e != api.OK || len(k.Terms()) != 1999 || k.Makes(term.Of("n0001")) {
		t.Fatal(e)
	}
	if e := k.Learn(term.Of("n0000")); e != api.OK || len(k.Terms()) != 3999 || !k.Makes(term.Of("n1999")) {
		t.Error(e)
	}
	for _, x := range list { // once more, one by one
		if e := k.Learn(x); e != api.OK {
			t.Fatal(e)
		}
	}
	if k, e := New(append(chain(2000), term.Of("n0000"))...); k != nil || e != api.ErrFull {
		t.Error(e)
	}
	l, e := New()
	for i, x := range chain(2000) {
		if e := l.Learn(x); e != api.OK || len(l.Terms()) != i+1 {
			t.Fatal(e)
		}
	}
	if e := l.Learn(term.Of("n0000")); e != api.ErrFull || l.Makes(term.Of("n0001")) {
		t.Error(e)
	}
	if e := l.Learn(term.Of("n0001")); e != api.OK || len(l.Terms()) != 4000 || l.Makes(term.Of("n0000")) {
		t.Error(e)
	}
}

// P20.2 and P1: keys that two agree on, in one another as deep as may be.
func TestDeepShared(t *testing.T) {
	deep, other := term.Of("a"), term.Of("b")
	for range 23 {
		deep = term.Term{Kind: term.Shared, Args: []term.Term{deep, other}}
	}
	k := knowing(t, "b")
	if k.Makes(deep) {
		t.Error("made of nothing")
	}
	k.Learn(term.Term{Kind: term.Seal, Args: []term.Term{deep, term.Of("c")}})
	if e := k.Learn(term.Of("a")); e != api.OK || !k.Makes(deep) || !k.Makes(term.Of("c")) {
		t.Error(e)
	}
	wide := term.Of("x")
	for range 8 {
		wide = term.Term{Kind: term.Shared, Args: []term.Term{wide, wide}}
	}
	if k.Makes(wide) {
		t.Error("made of nothing")
	}
	if e := k.Learn(read(t, "^(x)", "x")...); e != api.OK || !k.Makes(wide) {
		t.Error(e)
	}
}

// P2: what is handed in isn't changed and isn't kept; what is answered shares nothing.
func TestNothingShared(t *testing.T) {
	rng := rand.New(rand.NewSource(3))
	for range 200 {
		var was, list []term.Term
		for range 8 {
			x := chance(rng, 4)
			was = append(was, x)
			list = append(list, roomy(x))
		}
		asked := roomy(chance(rng, 3))
		askedWas := roomy(asked)
		k, e := New(list[:4]...)
		if e != api.OK || k.Learn(list[4:]...) != api.OK {
			t.Fatal(e)
		}
		k.Makes(asked)
		for i, x := range list {
			if term.Compare(x, was[i]) != 0 || !clean(x) {
				t.Fatal("changed")
			}
		}
		if term.Compare(asked, askedWas) != 0 || !clean(asked) {
			t.Fatal("changed")
		}
		scrub(list...)
		scrub(asked)
		w := newWorld(append(was, askedWas)...)
		held(t, k, w, was...)
		first, second := k.Terms(), k.Terms()
		seen := map[*term.Term]bool{}
		for _, s := range slots(append(first, second...)...) {
			if seen[s] {
				t.Fatal("shared")
			}
			seen[s] = true
		}
		scrub(first...)
		for i := range first[:cap(first)] {
			first[:cap(first)][i] = term.Term{Kind: 77}
		}
		if !slices.Equal(texts(second), texts(k.Terms())) {
			t.Fatal("shared")
		}
		held(t, k, w, was...)
	}
}

// P2: what one knows is not what another knows, and what is learnt changes no answer given before.
func TestApart(t *testing.T) {
	k := knowing(t, "s(a,b)")
	l, e := New(k.Terms()...)
	was := k.Terms()
	if e != api.OK || l.Learn(term.Of("a")) != api.OK || !l.Makes(term.Of("b")) {
		t.Fatal(e)
	}
	if k.Makes(term.Of("b")) || len(k.Terms()) != 1 || len(was) != 1 {
		t.Error("shared")
	}
	k.Learn(read(t, "c", "d")...)
	if l.Makes(term.Of("c")) || !slices.Equal(texts(was), []string{"s(a,b)"}) {
		t.Error("shared")
	}
}

// P1: terms that are none, of many kinds, deep and wide.
func TestRaw(t *testing.T) {
	k := knowing(t, "a", "s(b,c)")
	for kind := -1; kind < 10; kind++ {
		for count := range 6 {
			for _, name := range []string{"", "a", "\xff"} {
				x := term.Term{Kind: kind, Name: name, Args: slices.Repeat([]term.Term{term.Of("a")}, count)}
				y := term.Term{Kind: term.Seal, Args: []term.Term{x, {Kind: kind}}}
				for _, z := range []term.Term{x, y} {
					if want := z.Check(); k.Learn(z) != want || want != api.OK && k.Makes(z) || want == api.OK && !k.Makes(z) {
						t.Errorf("%+v", z)
					}
				}
			}
		}
		deep := term.Term{Kind: kind}
		for range 1<<16 - 1 {
			deep = term.Term{Kind: kind, Args: []term.Term{deep}}
		}
		wide := term.Term{Kind: kind, Args: make([]term.Term, 1<<16-1)}
		for _, x := range []term.Term{deep, wide} {
			if k.Learn(x) != api.ErrLong || k.Makes(x) {
				t.Error("taken")
			}
		}
	}
}
