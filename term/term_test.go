package term

import (
	"math"
	"math/rand"
	"slices"
	"strings"
	"testing"

	"intaglio/api"
)

// parsed: the term of a text that has one.
func parsed(t *testing.T, s string) Term {
	t.Helper()
	x, e := Parse(s)
	if e != api.OK {
		t.Fatalf("%q: %v", s, e)
	}
	return x
}

// The limits and the kinds have the chapter's numbers.
func TestNumbers(t *testing.T) {
	if !slices.Equal([]int{MaxDepth, MaxSize, MaxName}, []int{24, 1000, 20}) {
		t.Error("a limit has another number")
	}
	if !slices.Equal([]int{Atom, Pair, Seal, Hash, Public, Shared, Agree, Sign}, []int{1, 2, 3, 4, 5, 6, 7, 8}) {
		t.Error("a kind has another number")
	}
}

// P19.1: an atom has any name that is told.
func TestOf(t *testing.T) {
	for _, name := range []string{"a", "", "A", "p(a,b)", "\xff", strings.Repeat("a", 21)} {
		x := Of(name)
		if x.Kind != 1 || x.Name != name || len(x.Args) != 0 {
			t.Errorf("%q: %+v", name, x)
		}
	}
}

// P19.1: terms one behind the other.
func TestPairs(t *testing.T) {
	a, b, c, d := Of("a"), hashed(Of("b")), Of("c"), twice(Of("d"))
	for _, x := range []struct {
		list []Term
		want string
	}{
		{nil, "nothing"},
		{[]Term{}, "nothing"},
		{[]Term{a}, "a"},
		{[]Term{d}, "p(d,b)"},
		{[]Term{a, b}, "p(a,hk(b))"},
		{[]Term{a, b, c}, "p(a,p(hk(b),c))"},
		{[]Term{d, a, b, d}, "p(p(d,b),p(a,p(hk(b),p(d,b))))"},
		{[]Term{a, a, a, a, a}, "p(a,p(a,p(a,p(a,a))))"},
	} {
		p := Pairs(x.list...)
		if s := slowString(p); s != x.want || p.Check() != api.OK {
			t.Errorf("%s, not %s", s, x.want)
		}
	}
	if e := Pairs(slices.Repeat([]Term{a}, 25)...).Check(); e != api.OK {
		t.Errorf("25: %v", e)
	}
	if e := Pairs(slices.Repeat([]Term{a}, 26)...).Check(); e != api.ErrLong {
		t.Errorf("26: %v", e)
	}
}

// P19.1: names have one to twenty of the letters and digits, nothing else.
func TestCheckOfNames(t *testing.T) {
	names := []string{"", "a", "z", "0", "9", "a0", "0a", "nothing", "abcdefghijklmnopqrst", "abcdefghijklmnopqrstu", "01234567890123456789", "012345678901234567890", "é", "aé", "a b", " ", "a\n", "\na", "ａ", strings.Repeat("a", 1<<20)}
	for c := range 256 {
		names = append(names, string([]byte{byte(c)}), string([]byte{'a', byte(c)}), string([]byte{byte(c), 'a'}), "abcdefghijklmnopqrs"+string([]byte{byte(c)}))
	}
	for _, name := range names {
		want := api.ErrTerm
		if slowNames.MatchString(name) {
			want = api.OK
		}
		for _, x := range []Term{Of(name), {Kind: Hash, Name: name, Args: []Term{Of("a")}}} {
			if e := x.Check(); e != want {
				t.Errorf("%d with %.30q: %v", x.Kind, name, e)
			}
			if e := tower(x, 20, twice).Check(); e != want {
				t.Errorf("%d with %.30q within: %v", x.Kind, name, e)
			}
		}
		for _, kind := range []int{Pair, Seal, Public, Shared, Agree, Sign} {
			x := Term{Kind: kind, Name: name, Args: []Term{Of("a"), Of("b")}}
			if kind == Public {
				x.Args = x.Args[:1]
			}
			want := api.ErrTerm
			if name == "" {
				want = api.OK
			}
			if e := x.Check(); e != want {
				t.Errorf("%d with %.30q: %v", kind, name, e)
			}
		}
	}
}

// P19.1: each kind has as many Args as it has, and there are no other kinds.
func TestCheckOfCounts(t *testing.T) {
	for _, kind := range []int{0, 1, 2, 3, 4, 5, 6, 7, 8, 9, 10, -1, -8, 256, 257, 258, 260, 1<<32 + 1, math.MaxInt, math.MinInt} {
		for count := range 8 {
			for _, name := range []string{"", "a"} {
				x := Term{Kind: kind, Name: name, Args: slices.Repeat([]Term{Of("a")}, count)}
				want := api.ErrTerm
				if slowRight(x) {
					want = api.OK
				}
				for _, y := range []Term{x, tower(x, 24, hashed), tower(x, 24, twice)} {
					if slowSize(y) <= MaxSize && slowDepth(y) <= MaxDepth {
						if e := y.Check(); e != want {
							t.Errorf("%d, %q, %d: %v", kind, name, count, e)
						}
					}
				}
			}
		}
	}
}

// P19.1: each of the Args must be right, in whatever place.
func TestCheckOfArgs(t *testing.T) {
	for count := 1; count <= 4; count++ {
		for at := range count {
			x := Term{Kind: Hash, Name: "a", Args: slices.Repeat([]Term{Of("a")}, count)}
			x.Args[at] = hashed(Term{Kind: Pair, Args: []Term{Of("a"), Of("A")}})
			if e := x.Check(); e != api.ErrTerm {
				t.Errorf("%d of %d: %v", at, count, e)
			}
		}
	}
}

// P19.1: how deep a term may lie: in 24 others.
func TestCheckOfDepth(t *testing.T) {
	for n := range 40 {
		want, wrong := api.OK, api.ErrTerm
		if n > 24 {
			want, wrong = api.ErrLong, api.ErrLong
		}
		for i, around := range []func(Term) Term{
			hashed, twice,
			func(t Term) Term { return Term{Kind: Seal, Args: []Term{Of("b"), t}} },
			func(t Term) Term { return Term{Kind: Public, Args: []Term{t}} },
			func(t Term) Term { return Term{Kind: Hash, Name: "x", Args: []Term{Of("a"), Of("a"), Of("a"), t}} },
		} {
			if e := tower(Of("a"), n, around).Check(); e != want {
				t.Errorf("%d, %d: %v", i, n, e)
			}
			if e := tower(Of("A"), n, around).Check(); e != wrong {
				t.Errorf("%d, %d, wrong: %v", i, n, e)
			}
		}
	}
}

// P19.1: how many terms one may be: 1000, itself and those that come twice too.
func TestCheckOfSize(t *testing.T) {
	for _, size := range []int{1, 2, 3, 999, 1000, 1001, 1002, 1300} {
		x := full(size)
		if slowSize(x) != size {
			t.Fatalf("%d, not %d", slowSize(x), size)
		}
		want := api.OK
		if size > 1000 {
			want = api.ErrLong
		}
		if e := x.Check(); e != want || e != slowCheck(x) {
			t.Errorf("%d: %v", size, e)
		}
		wide := Term{Kind: Hash, Name: "a", Args: slices.Repeat([]Term{Of("a")}, size-1)}
		if e := wide.Check(); e != slowCheck(wide) {
			t.Errorf("%d in a row: %v", size, e)
		}
	}
}

// P19.1: too long is told ahead of not right, wherever the one and the other are.
func TestCheckOrder(t *testing.T) {
	wrong := []Term{{}, {Kind: 9}, Of("A"), {Kind: Pair}, {Kind: Hash, Args: []Term{Of("a")}}}
	for _, w := range wrong {
		for _, long := range []Term{tower(Of("a"), 25, hashed), tower(w, 25, twice), full(1001), {Kind: Atom, Name: "a", Args: make([]Term, 1000)}} {
			for _, x := range []Term{long, Pairs(w, long), Pairs(long, w), {Kind: 77, Args: []Term{long}}} {
				if e := x.Check(); e != api.ErrLong {
					t.Errorf("%v", e)
				}
			}
		}
		if e := tower(w, 23, hashed).Check(); e != api.ErrTerm {
			t.Errorf("23: %v", e)
		}
	}
	if e := (Term{Kind: Atom, Name: "a", Args: make([]Term, 999)}).Check(); e != api.ErrTerm {
		t.Errorf("999: %v", e)
	}
}

// P19.1: terms of all sorts, held against the words.
func TestCheckOfAny(t *testing.T) {
	rng := rand.New(rand.NewSource(1))
	for range 3000 {
		for _, x := range []Term{chance(rng, 8), chance(rng, 40), wild(rng, 6), wild(rng, 3000)} {
			if e := x.Check(); e != slowCheck(x) {
				t.Fatalf("%v, not %v", e, slowCheck(x))
			}
		}
	}
}

// P19.2: by Kind, then by Name, then by how many Args, then by these.
func TestCompare(t *testing.T) {
	rising := []Term{ // each ahead of the next
		{Kind: math.MinInt, Name: "z", Args: make([]Term, 9)},
		{Kind: -1, Name: "z"},
		{},
		{Args: []Term{{Kind: -5}}},
		{Args: []Term{{}}},
		{Args: []Term{{Kind: 1}}},
		{Args: []Term{{}, {}}},
		{Name: "\x00"},
		Of(""),
		Of("0"),
		Of("Z"),
		Of("a"),
		{Kind: Atom, Name: "a", Args: []Term{{}}},
		Of("a0"),
		Of("aa"),
		Of("b"),
		Of("\x80"),
		Of("é"),
		Of("\xff"),
		{Kind: Pair, Args: []Term{Of("b")}},
		{Kind: Pair, Args: []Term{Of("a"), Of("b")}},
		{Kind: Pair, Args: []Term{Of("a"), hashed(Of("a"))}},
		{Kind: Pair, Args: []Term{Of("b"), Of("a")}},
		{Kind: Pair, Args: []Term{Of("a"), Of("a"), Of("a")}},
		{Kind: Pair, Name: "a"},
		{Kind: Seal, Args: []Term{Of("a"), Of("a")}},
		{Kind: Hash, Name: "a", Args: []Term{Of("b")}},
		{Kind: Hash, Name: "a", Args: []Term{Of("a"), Of("b")}},
		{Kind: Hash, Name: "aa", Args: []Term{Of("a")}},
		{Kind: Hash, Name: "b", Args: []Term{Of("a")}},
		{Kind: Sign, Args: []Term{Of("a"), Of("a")}},
		{Kind: 9},
		{Kind: math.MaxInt},
	}
	for i, a := range rising {
		for j, b := range rising {
			want := 0
			if i < j {
				want = -1
			} else if i > j {
				want = 1
			}
			if c := Compare(a, roomy(b)); c != want || slowCompare(a, b) != want {
				t.Errorf("%d and %d: %d", i, j, c)
			}
			if c := Compare(tower(a, 9, twice), tower(b, 9, twice)); c != want {
				t.Errorf("%d and %d within: %d", i, j, c)
			}
		}
	}
}

// P19.2: terms of all sorts, held against the words.
func TestCompareOfAny(t *testing.T) {
	rng := rand.New(rand.NewSource(2))
	for range 200 {
		list := []Term{chance(rng, 3), chance(rng, 2), chance(rng, 1), wild(rng, 3), wild(rng, 2), wild(rng, 100)}
		list = append(list, Pairs(list[0], list[2]), twice(list[1]), roomy(list[5]))
		for _, a := range list {
			for _, b := range list {
				if c := Compare(a, b); c != slowCompare(a, b) {
					t.Fatalf("%d, not %d", c, slowCompare(a, b))
				}
			}
		}
	}
}

// P19.2: what two keys agree on is the same both ways, in whatever place it stands.
func TestNormal(t *testing.T) {
	for s, want := range map[string]string{
		"hkey(~(a,^(b)),p(x,s(k,y)))": "hkey(=(a,b),p(x,s(k,y)))",
		"a":                           "a",
		"=(a,b)":                      "=(a,b)",
		"=(b,a)":                      "=(a,b)",
		"=(a,a)":                      "=(a,a)",
		"=(p(a,a),b)":                 "=(b,p(a,a))",
		"=(ha(a,a),ha(b))":            "=(ha(b),ha(a,a))",
		"=(hb(a),haa(b))":             "=(haa(b),hb(a))",
		"=(^(b),^(a))":                "=(^(a),^(b))",
		"~(a,^(b))":                   "=(a,b)",
		"~(b,^(a))":                   "=(a,b)",
		"~(a,^(a))":                   "=(a,a)",
		"~(^(a),b)":                   "~(^(a),b)",
		"~(^(b),^(a))":                "=(a,^(b))",
		"~(b,a)":                      "~(b,a)",
		"~(a,~(b,^(c)))":              "~(a,=(b,c))",
		"~(~(b,^(a)),^(c))":           "=(c,=(a,b))",
		"~(c,^(~(b,^(a))))":           "=(c,=(a,b))",
		"=(~(b,a),=(b,a))":            "=(=(a,b),~(b,a))",
		"=(~(b,^(a)),=(a,b))":         "=(=(a,b),=(a,b))",
		"=(~(x,^(a)),=(c,b))":         "=(=(a,x),=(b,c))", // whose Args come first: by their one forms
		"=(~(c,^(b)),b)":              "=(b,=(b,c))",
		"p(b,a)":                      "p(b,a)",
		"s(~(b,^(a)),=(b,a))":         "s(=(a,b),=(a,b))",
		"g(b,a)":                      "g(b,a)",
		"g(=(b,a),~(z,^(^(y))))":      "g(=(a,b),=(z,^(y)))",
		"^(~(b,^(a)))":                "^(=(a,b))",
		"hx(b,a,=(b,a),~(b,^(a)))":    "hx(b,a,=(a,b),=(a,b))",
	} {
		x := parsed(t, s)
		n := x.Normal()
		if got := n.String(); got != want || n.Check() != api.OK || slowString(slowNormal(x)) != want {
			t.Errorf("%s: %s, not %s", s, got, want)
		}
	}
}

// P19.2: terms of all sorts, held against the words; the one form of the one form is itself.
func TestNormalOfAny(t *testing.T) {
	rng := rand.New(rand.NewSource(3))
	for range 3000 {
		x := chance(rng, 1+rng.Intn(9))
		if x.Check() != api.OK {
			continue
		}
		n := x.Normal()
		if Compare(n, slowNormal(x)) != 0 || Compare(n.Normal(), n) != 0 || n.Check() != api.OK {
			t.Fatalf("%v: %v", x, n)
		}
	}
}

// P19.3: the sign of each kind.
func TestString(t *testing.T) {
	a, b := Of("a"), Of("b9")
	for want, x := range map[string]Term{
		"b9":                         b,
		"p(a,b9)":                    {Kind: Pair, Args: []Term{a, b}},
		"s(a,b9)":                    {Kind: Seal, Args: []Term{a, b}},
		"h9k(a)":                     {Kind: Hash, Name: "9k", Args: []Term{a}},
		"hk(b9,a)":                   {Kind: Hash, Name: "k", Args: []Term{b, a}},
		"hk(b9,a,b9)":                {Kind: Hash, Name: "k", Args: []Term{b, a, b}},
		"hh(a,a,a,b9)":               {Kind: Hash, Name: "h", Args: []Term{a, a, a, b}},
		"habcdefghijklmnopqrst(a)":   {Kind: Hash, Name: "abcdefghijklmnopqrst", Args: []Term{a}},
		"^(a)":                       {Kind: Public, Args: []Term{a}},
		"=(b9,a)":                    {Kind: Shared, Args: []Term{b, a}},
		"~(a,b9)":                    {Kind: Agree, Args: []Term{a, b}},
		"g(a,b9)":                    {Kind: Sign, Args: []Term{a, b}},
		"p":                          Of("p"),
		"hk":                         Of("hk"),
		"p(hk(a),p(p,^(=(g,h))))":    Pairs(hashed(a), Of("p"), Term{Kind: Public, Args: []Term{{Kind: Shared, Args: []Term{Of("g"), Of("h")}}}}),
		"hk(hk(hk(a)))":              tower(a, 3, hashed),
		"p(p(p(a,b),b),b)":           tower(a, 3, twice),
		"hp(p(a,b))":                 {Kind: Hash, Name: "p", Args: []Term{twice(a)}},
		"s(abcdefghijklmnopqrst,00)": {Kind: Seal, Args: []Term{Of("abcdefghijklmnopqrst"), Of("00")}},
	} {
		if s := x.String(); s != want || s != slowString(x) {
			t.Errorf("%s, not %s", s, want)
		}
		if y := parsed(t, want); Compare(x, y) != 0 {
			t.Errorf("%s: %+v", want, y)
		}
	}
}

// refused: that a text is none.
func refused(t *testing.T, s string) {
	t.Helper()
	if x, e := Parse(s); e != api.ErrTerm || x.Kind != 0 || x.Name != "" || len(x.Args) != 0 {
		t.Errorf("%.60q: %+v, %v", s, x, e)
	}
}

// P19.3: texts that are none.
func TestParseOfOthers(t *testing.T) {
	for _, s := range []string{
		"", " ", "A", "é", "a ", " a", "a\n", "\x00", "\xff", "a b", "-", "a-b", "+1",
		"abcdefghijklmnopqrstu", "h(a)", "habcdefghijklmnopqrstu(a)", "hA(a)", "h^(a)", "h (a)",
		"(", ")", ",", "()", "(a)", "(a,b)", "a,b", "a)", "a,", ",a", "a(", "a()", "a(b)", "a(b,c)",
		"p(", "p()", "p(a)", "p(a,", "p(a,)", "p(,a)", "p(,)", "p(a,b", "p(a,b,", "p(a,b,c)", "p(a,b))", "p(a,b)c", "p(a,b),", "p(a,b)(c)", "p(a,b)p(a,b)", "p(a;b)", "p(a b)", "p(a, b)", "p (a,b)", "p(a,b) ", "p((a,b))", "p(a,b()", "pp(a,b)", "P(a,b)", "p[a,b]",
		"s(a)", "s(a,b,c)", "s2(a,b)", "^a", "^", "^()", "^(a,b)", "^^(a)", "^x(a)", "=(a)", "=(a,b,c)", "=a(a,b)", "=", "~(a)", "~(a,b,c)", "~", "g(a)", "g(a,b,c)", "gg(a,b)",
		"hk()", "hk(", "hk(a", "hk(a,b,c,d,e)", "hk(a,b,c,d", "hk(a,b,c,d,)", "hk(a)(b)", "hk(,a)",
		"x(a)", "x(a,b)", "q(a,b)", "(hk(a))", "a(b", "nothing()", "p(p(a,b),^)", "p(=,b)",
	} {
		refused(t, s)
	}
}

// P19.3: of all short texts those that are written, and no others.
func TestParseOfAllShort(t *testing.T) {
	for letters, signs := range map[string]string{"ah": "ah^(,)", "p": "p=(,)1A"} {
		for n := range 8 {
			good := map[string]bool{}
			for _, s := range texts(n, letters+strings.Trim(signs, "ah^(,)p=A")) {
				good[s] = true
			}
			found := 0
			for _, s := range words(n, signs) {
				x, e := Parse(s)
				if good[s] {
					found++
				}
				if good[s] && (e != api.OK || slowString(x) != s || x.Check() != api.OK) {
					t.Fatalf("%q: %v, %v", s, x, e)
				}
				if !good[s] && (e != api.ErrTerm || x.Kind != 0) {
					t.Fatalf("%q: %v, %v", s, x, e)
				}
			}
			if n > 0 && found == 0 {
				t.Error("none at all")
			}
		}
	}
}

// P19.3: terms of all sorts come back; their texts changed in one sign are others, or none.
func TestParseOfAny(t *testing.T) {
	rng := rand.New(rand.NewSource(4))
	for range 300 {
		x := chance(rng, 1+rng.Intn(7))
		if x.Check() != api.OK {
			continue
		}
		s := x.String()
		if y := parsed(t, s); s != slowString(x) || Compare(x, y) != 0 {
			t.Fatalf("%s: %v", s, y)
		}
		if len(s) > 60 {
			continue
		}
		for i := range len(s) + 1 {
			for _, c := range "a(),^h =A" {
				changed := []string{s[:i] + string(c) + s[i:]}
				if i < len(s) {
					changed = append(changed, s[:i]+string(c)+s[i+1:], s[:i]+s[i+1:], s[:i])
				}
				for _, w := range changed {
					if y, e := Parse(w); e == api.OK && (slowString(y) != w || slowCheck(y) != api.OK) || e != api.OK && (e != api.ErrTerm || y.Kind != 0) {
						t.Fatalf("%q: %v, %v", w, y, e)
					}
				}
			}
		}
	}
}

// P19.3: the limits hold in texts too, and what is too long is no term.
func TestParseLimits(t *testing.T) {
	for _, around := range []func(Term) Term{hashed, twice} {
		for _, n := range []int{23, 24} {
			x := tower(Of("a"), n, around)
			if y := parsed(t, slowString(x)); Compare(x, y) != 0 {
				t.Errorf("%d: %v", n, y)
			}
		}
		for _, n := range []int{25, 26, 100, 1 << 16} {
			refused(t, strings.Repeat("hk(", n)+"a"+strings.Repeat(")", n))
			refused(t, strings.Repeat("p(", n)+"a"+strings.Repeat(",b)", n))
			refused(t, strings.Repeat("p(a,", n)+"a"+strings.Repeat(")", n))
		}
	}
	for _, size := range []int{998, 999, 1000} {
		x := full(size)
		if y := parsed(t, slowString(x)); Compare(x, y) != 0 || slowSize(y) != size {
			t.Errorf("%d", size)
		}
	}
	for _, size := range []int{1001, 1002, 1300} {
		refused(t, slowString(full(size)))
	}
	for _, n := range []int{1, 19, 20} {
		name := strings.Repeat("z", n)
		if parsed(t, name).Name != name || parsed(t, "h"+name+"("+name+")").Name != name {
			t.Error(n)
		}
	}
	for _, n := range []int{21, 22, 1000, 1 << 20} {
		refused(t, strings.Repeat("z", n))
		refused(t, "h"+strings.Repeat("z", n)+"(a)")
		refused(t, "p(a,"+strings.Repeat("z", n)+")")
	}
}

// P19.3 and P1: very long texts that are none.
func TestParseOfVeryLong(t *testing.T) {
	for _, s := range []string{"p(", "(", ")", ",", "^(", "a,", "p(a,", "hk(a,", "\xff", "é", "a", "h", "hk(a),"} {
		for _, front := range []string{"", "p(a", "hk(", "p(a,"} {
			refused(t, front+strings.Repeat(s, 1<<20))
		}
	}
}

// P19.4: the example's parts, and others.
func TestParts(t *testing.T) {
	for s, want := range map[string]string{
		"hkey(~(a,^(b)),p(x,s(k,y)))": "a b k x y p(x,s(k,y)) s(k,y) hkey(~(a,^(b)),p(x,s(k,y))) ^(b) ~(a,^(b))",
		"a":                           "a",
		"p(a,a)":                      "a p(a,a)",
		"p(b,a)":                      "a b p(b,a)",
		"p(p(b,a),p(b,a))":            "a b p(b,a) p(p(b,a),p(b,a))",
		"=(b,=(a,b))":                 "a b =(a,b) =(b,=(a,b))",
		"p(=(a,b),=(b,a))":            "a b p(=(a,b),=(b,a)) =(a,b) =(b,a)", // as they stand, not in their one form
		"~(a,^(b))":                   "a b ^(b) ~(a,^(b))",
	} {
		var got []string
		for _, p := range parsed(t, s).Parts() {
			got = append(got, p.String())
		}
		if strings.Join(got, " ") != want {
			t.Errorf("%s: %q", s, got)
		}
	}
}

// P19.4: terms of all sorts, held against the words.
func TestPartsOfAny(t *testing.T) {
	rng := rand.New(rand.NewSource(5))
	list := []Term{full(1000), tower(Of("a"), 24, hashed), tower(Of("a"), 24, twice)}
	for range 300 {
		list = append(list, chance(rng, 1+rng.Intn(9)))
	}
	for _, x := range list {
		if x.Check() != api.OK {
			continue
		}
		var got []string
		for _, p := range x.Parts() {
			got = append(got, slowString(p))
		}
		if want := slowParts(x); !slices.Equal(got, want) {
			t.Fatalf("%v: %q, not %q", x, got, want)
		}
	}
}

// P2: nothing that is handed in is changed, its spare room neither, and no answer shares a list with it or with another.
func TestNothingShared(t *testing.T) {
	rng := rand.New(rand.NewSource(6))
	for i := range 400 {
		was := chance(rng, 1+rng.Intn(6))
		if i%4 == 0 {
			was = wild(rng, 30)
		}
		x, y, z := roomy(was), roomy(was), roomy(chance(rng, 2))
		zWas := roomy(z)
		list := append(make([]Term, 0, 9), x, y, z)
		answers := append([]Term{}, Pairs(list...), Pairs(x), Pairs(list[:2]...), x.Normal(), x.Normal(), z.Normal())
		answers = append(answers, x.Parts()...)
		answers = append(answers, z.Parts()...)
		Compare(x, z)
		x.Check()
		text := x.String()
		if p, e := Parse(text); e == api.OK {
			q, _ := Parse(text)
			answers = append(answers, p, q)
		}
		if Compare(x, was) != 0 || Compare(z, zWas) != 0 || !clean(x) || !clean(z) || !clean(Term{Args: list}) {
			t.Fatal("changed")
		}
		if !apart(append(answers, list...)...) {
			t.Fatalf("%v: shared", was)
		}
	}
}

// P2: what Parts answers has spare room of its own too.
func TestPartsApart(t *testing.T) {
	x := parsed(t, "hkey(~(a,^(b)),p(x,s(k,y)))")
	first, second := x.Parts(), x.Parts()
	for i := range first[:cap(first)] {
		first[:cap(first)][i] = Term{Kind: 77}
	}
	if Compare(second[0], Of("a")) != 0 || Compare(x, parsed(t, "hkey(~(a,^(b)),p(x,s(k,y)))")) != 0 {
		t.Error("shared")
	}
}

// all: each call, with a term of any kind.
func all(x, y Term) {
	x.Check()
	Compare(x, y)
	Compare(y, x)
	x.Normal()
	Parse(x.String())
	x.Parts()
	Pairs(x, y)
	Pairs(x)
	Of(x.Name)
}

// P1: terms that are none, of as many terms as there may be, deep and wide, and of more kinds than there are.
func TestRaw(t *testing.T) {
	rng := rand.New(rand.NewSource(7))
	const most = 1 << 16
	list := []Term{{}, {Kind: Atom}, {Kind: Agree}, {Kind: Shared}, {Kind: Hash, Args: make([]Term, most-1)}, {Args: make([]Term, most-1)}}
	for kind := -1; kind <= 9; kind++ {
		one := func(x Term) Term { return Term{Kind: kind, Args: []Term{x}} }
		left := func(x Term) Term { return Term{Kind: kind, Args: []Term{x, Of("b")}} }
		right := func(x Term) Term { return Term{Kind: kind, Args: []Term{{Kind: Public}, x}} }
		list = append(list, tower(Of("a"), most-1, one), tower(Of("a"), most/2-1, left), tower(Of("a"), most/2-1, right))
		for _, args := range [][]Term{nil, {{Kind: Public}}, {{}, {Kind: Public}}, {{Kind: Public}, {Kind: Public}}, {{}, {Kind: Public, Args: make([]Term, 2)}}, {{}, {Kind: Public, Args: make([]Term, 1)}, {}}} {
			list = append(list, Term{Kind: kind, Args: args})
		}
	}
	same := Of("a")
	for range 15 {
		same = Term{Kind: Shared, Args: []Term{same, same}} // its lists come again and again
	}
	list = append(list, same)
	for range 200 {
		list = append(list, wild(rng, 50), wild(rng, most))
	}
	for i, x := range list {
		all(x, list[(i+1)%len(list)])
		all(x, x)
	}
	if Compare(list[6], list[6]) != 0 {
		t.Error("not itself")
	}
}

// P1: texts of any bytes.
func TestParseOfRaw(t *testing.T) {
	rng := rand.New(rand.NewSource(8))
	for range 20000 {
		b := make([]byte, rng.Intn(30))
		rng.Read(b)
		if rng.Intn(2) == 0 {
			for i := range b {
				b[i] = "psh^=~gab09(((,,,)))"[int(b[i])%20]
			}
		}
		if x, e := Parse(string(b)); e == api.OK && slowString(x) != string(b) || e != api.OK && e != api.ErrTerm {
			t.Fatalf("%q: %v", b, e)
		}
	}
}

// P1: very many terms one behind the other.
func TestPairsOfVeryMany(t *testing.T) {
	p := Pairs(make([]Term, 1<<15)...)
	if slowSize(p) != 1<<16-1 || p.Check() != api.ErrLong {
		t.Error(slowSize(p))
	}
}
