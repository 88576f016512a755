package term

import (
	"math/rand"
	"regexp"
	"slices"
	"strconv"
	"strings"

	"intaglio/api"
)

// slowSize: how many terms one is, with all within it.
func slowSize(t Term) int {
	n := 1
	for _, a := range t.Args {
		n += slowSize(a)
	}
	return n
}

// slowDepth: in how many others the deepest lies.
func slowDepth(t Term) int {
	n := 0
	for _, a := range t.Args {
		n = max(n, 1+slowDepth(a))
	}
	return n
}

var slowNames = regexp.MustCompile(`\A[a-z0-9]{1,20}\z`)

// slowRight: Is a term made as the words of its kind say, and all within it?
func slowRight(t Term) bool {
	named, count := slowNames.MatchString(t.Name), len(t.Args)
	for _, a := range t.Args {
		if !slowRight(a) {
			return false
		}
	}
	switch t.Kind {
	case 1:
		return named && count == 0
	case 4:
		return named && count >= 1 && count <= 4
	case 5:
		return t.Name == "" && count == 1
	case 2, 3, 6, 7, 8:
		return t.Name == "" && count == 2
	}
	return false
}

// slowCheck: by the words of the promise.
func slowCheck(t Term) api.Errno {
	switch {
	case slowSize(t) > 1000 || slowDepth(t) > 24:
		return api.ErrLong
	case !slowRight(t):
		return api.ErrTerm
	}
	return api.OK
}

// slowCompare: by the words of the promise.
func slowCompare(a, b Term) int {
	if a.Kind != b.Kind {
		return map[bool]int{true: -1, false: 1}[a.Kind < b.Kind]
	}
	if a.Name != b.Name {
		return strings.Compare(a.Name, b.Name)
	}
	if len(a.Args) != len(b.Args) {
		return map[bool]int{true: -1, false: 1}[len(a.Args) < len(b.Args)]
	}
	for i := range a.Args {
		if c := slowCompare(a.Args[i], b.Args[i]); c != 0 {
			return c
		}
	}
	return 0
}

// slowNormal: by the words of the promise, of what is a term.
func slowNormal(t Term) Term {
	n := Term{Kind: t.Kind, Name: t.Name}
	for _, a := range t.Args {
		n.Args = append(n.Args, slowNormal(a))
	}
	if n.Kind == 7 && n.Args[1].Kind == 5 {
		n = Term{Kind: 6, Args: []Term{n.Args[0], n.Args[1].Args[0]}}
	}
	if n.Kind == 6 {
		slices.SortStableFunc(n.Args, slowCompare)
	}
	return n
}

// slowString: by the words of the promise, of what is a term.
func slowString(t Term) string {
	var args []string
	for _, a := range t.Args {
		args = append(args, slowString(a))
	}
	if t.Kind == 1 {
		return t.Name
	}
	return " psh^=~g"[t.Kind-1:t.Kind] + t.Name + "(" + strings.Join(args, ",") + ")"
}

// slowParts: the texts of a term and of all within it, each once, in the order of the terms.
func slowParts(t Term) []string {
	byText := map[string]Term{}
	var walk func(t Term)
	walk = func(t Term) {
		byText[slowString(t)] = t
		for _, a := range t.Args {
			walk(a)
		}
	}
	walk(t)
	var list []string
	for s := range byText {
		list = append(list, s)
	}
	slices.SortFunc(list, func(a, b string) int { return slowCompare(byText[a], byText[b]) })
	return list
}

// chance: a term of at most so many others in one another, with few names, so that parts come more than once.
func chance(rng *rand.Rand, depth int) Term {
	names := []string{"a", "b", "zz", "a0", "9"}
	name := names[rng.Intn(len(names))]
	kind := 1 + rng.Intn(8)
	if depth == 0 || kind == 1 {
		return Term{Kind: 1, Name: name}
	}
	count := 2
	switch kind {
	case 4:
		count = 1 + rng.Intn(4)
	case 5:
		count = 1
	}
	if kind != 4 {
		name = ""
	}
	t := Term{Kind: kind, Name: name}
	for range count {
		t.Args = append(t.Args, chance(rng, rng.Intn(depth)))
	}
	if kind == 7 && rng.Intn(2) == 0 {
		t.Args[1] = Term{Kind: 5, Args: []Term{t.Args[1]}}
	}
	return t
}

// wild: of any kinds, names and counts; at most so many terms.
func wild(rng *rand.Rand, size int) Term {
	kinds := []int{0, 1, 2, 3, 4, 5, 6, 7, 8, 9, -1, 255, 257, 1 << 40, -1 << 63, 1<<63 - 1}
	names := []string{"", "", "", "a", "b", "A", "a b", "é", "\xff", "\x00", "(", ",", ")", "^", "abcdefghijklmnopqrst", "abcdefghijklmnopqrstu", strings.Repeat("x", 5000)}
	t := Term{Kind: kinds[rng.Intn(len(kinds))], Name: names[rng.Intn(len(names))]}
	for size--; size > 0 && rng.Intn(4) > 0; {
		n := 1 + rng.Intn(size)
		t.Args = append(t.Args, wild(rng, n))
		size -= n
	}
	if rng.Intn(4) == 0 {
		t.Args = append(make([]Term, 0, 9), t.Args...)
	}
	return t
}

// tower: so many terms in one another: what lies innermost, and what is made of it again and again.
func tower(t Term, n int, around func(Term) Term) Term {
	for range n {
		t = around(t)
	}
	return t
}

// hashed: a sum of one.
func hashed(t Term) Term { return Term{Kind: 4, Name: "k", Args: []Term{t}} }

// twice: a term, and a name behind it.
func twice(t Term) Term { return Term{Kind: 2, Args: []Term{t, {Kind: 1, Name: "b"}}} }

// full: a term of so many, all of them right, few of them in one another.
func full(size int) Term {
	if size == 1 {
		return Of("a")
	}
	t := Term{Kind: 4, Name: "k" + strconv.Itoa(size%7)}
	for count := min(4, size-1); count > 0; count-- {
		part := (size - slowSize(t)) / count
		t.Args = append(t.Args, full(part))
	}
	return t
}

// roomy: a copy of a term, each list of which has spare room.
func roomy(t Term) Term {
	args := make([]Term, 0, len(t.Args)+2)
	for _, a := range t.Args {
		args = append(args, roomy(a))
	}
	t.Args = args
	return t
}

// clean: is the spare room of all lists of a term as it was made?
func clean(t Term) bool {
	for i, a := range t.Args[:cap(t.Args)] {
		if i >= len(t.Args) && (a.Kind != 0 || a.Name != "" || a.Args != nil) || !clean(a) {
			return false
		}
	}
	return true
}

// slots: all places of the lists of terms, with their spare room.
func slots(terms ...Term) []*Term {
	var list []*Term
	for _, t := range terms {
		args := t.Args[:cap(t.Args)]
		for i := range args {
			list = append(list, &args[i])
		}
		list = append(list, slots(args...)...)
	}
	return list
}

// apart: are all places of the lists of terms others?
func apart(terms ...Term) bool {
	seen := map[*Term]bool{}
	for _, s := range slots(terms...) {
		if seen[s] {
			return false
		}
		seen[s] = true
	}
	return true
}

// texts: all texts of right terms of n signs, with names of these letters alone.
func texts(n int, letters string) []string {
	if n < 1 {
		return nil
	}
	list := words(n, letters)
	for _, mark := range []string{"p", "s", "=", "~", "g"} {
		list = append(list, wrapped(mark, lists(n-len(mark)-2, 2, letters))...)
	}
	list = append(list, wrapped("^", lists(n-3, 1, letters))...)
	for long := 1; long <= n-4; long++ {
		for _, name := range words(long, letters) {
			for count := 1; count <= 4; count++ {
				list = append(list, wrapped("h"+name, lists(n-long-3, count, letters))...)
			}
		}
	}
	return list
}

// wrapped: lists in brackets behind a mark.
func wrapped(mark string, lists []string) []string {
	for i, s := range lists {
		lists[i] = mark + "(" + s + ")"
	}
	return lists
}

// words: all of n letters.
func words(n int, letters string) []string {
	list := []string{""}
	for range n {
		var longer []string
		for _, w := range list {
			for _, c := range letters {
				longer = append(longer, w+string(c))
			}
		}
		list = longer
	}
	return list
}

// lists: all lists of so many texts with commas between, n signs in all.
func lists(n, count int, letters string) []string {
	if count == 1 {
		return texts(n, letters)
	}
	var all []string
	for first := 1; first < n-1; first++ {
		for _, s := range texts(first, letters) {
			for _, rest := range lists(n-first-1, count-1, letters) {
				all = append(all, s+","+rest)
			}
		}
	}
	return all
}
