package knows

import (
	"math/rand"
	"slices"
	"testing"

	"intaglio/api"
	"intaglio/term"
)

// world: terms in their one form, with all of which they are made and the public keys of all of these, each once.
type world struct {
	terms []term.Term
	texts []string
	there map[string]bool
}

func newWorld(list ...term.Term) *world {
	w := &world{there: map[string]bool{}}
	for _, t := range list {
		w.put(t.Normal())
	}
	return w
}

// put: a term, and all that may be asked for on the way to it.
func (w *world) put(t term.Term) {
	s := t.String()
	if w.there[s] {
		return
	}
	w.there[s] = true
	w.terms, w.texts = append(w.terms, t), append(w.texts, s)
	for _, a := range t.Args {
		w.put(a)
		if t.Kind == 6 {
			w.put(term.Term{Kind: 5, Args: []term.Term{a}})
		}
	}
}

// makes: all texts of a world that can be made of what is known, by the words: each rule again and again.
func (w *world) makes(known ...term.Term) map[string]bool {
	made := map[string]bool{}
	for _, t := range known {
		made[t.Normal().String()] = true
	}
	for last := -1; last < len(made); {
		last = len(made)
		for i, t := range w.terms {
			if made[w.texts[i]] {
				for _, p := range apart(t, made) {
					made[p.String()] = true
				}
			} else if together(t, made) {
				made[w.texts[i]] = true
			}
		}
	}
	return made
}

// apart: what comes of a term by the first three rules.
func apart(t term.Term, made map[string]bool) []term.Term {
	switch t.Kind {
	case 2:
		return t.Args
	case 8:
		return t.Args[1:]
	case 3:
		if made[t.Args[0].String()] {
			return t.Args[1:]
		}
	}
	return nil
}

// together: does a term come of others by the other rules?
func together(t term.Term, made map[string]bool) bool {
	if t.Kind == 1 {
		return false
	}
	if t.Kind == 6 {
		x, y := t.Args[0].String(), t.Args[1].String()
		return made[x] && made["^("+y+")"] || made[y] && made["^("+x+")"]
	}
	return !slices.ContainsFunc(t.Args, func(a term.Term) bool { return !made[a.String()] })
}

// known: the texts of what Terms answers, by the words.
func (w *world) known(made map[string]bool, known ...term.Term) []string {
	var list []term.Term
	there := map[string]bool{}
	var take func(t term.Term)
	take = func(t term.Term) {
		if there[t.String()] {
			return
		}
		there[t.String()] = true
		list = append(list, t)
		for _, p := range apart(t, made) {
			take(p)
		}
	}
	for _, t := range known {
		take(t.Normal())
	}
	slices.SortFunc(list, term.Compare)
	return texts(list)
}

// texts of terms.
func texts(list []term.Term) []string {
	all := []string{}
	for _, t := range list {
		all = append(all, t.String())
	}
	return all
}

// small: all terms in their one form of at most so many others in one another, of two names.
func small(depth int) []term.Term {
	list := []term.Term{term.Of("a"), term.Of("b")}
	for range depth {
		var more []term.Term
		for _, x := range list {
			more = append(more, x, term.Term{Kind: 4, Name: "k", Args: []term.Term{x}}, term.Term{Kind: 5, Args: []term.Term{x}})
			for _, y := range list {
				for _, kind := range []int{2, 3, 6, 7, 8} {
					more = append(more, term.Term{Kind: kind, Args: []term.Term{x, y}})
				}
			}
		}
		list = newWorld(more...).terms
	}
	return list
}

// chance: a term of few names, with at most so many others in one another.
func chance(rng *rand.Rand, depth int) term.Term {
	names := []string{"a", "b", "c", "d", "e", "f"}
	name := names[rng.Intn(len(names))]
	kinds := []int{1, 2, 3, 3, 3, 4, 5, 6, 7, 7, 8}
	kind := kinds[rng.Intn(len(kinds))]
	if depth == 0 || kind == 1 {
		return term.Of(name)
	}
	t := term.Term{Kind: kind}
	count := 2
	if kind == 4 {
		t.Name, count = "k", 1+rng.Intn(4)
	}
	if kind == 5 {
		count = 1
	}
	for range count {
		t.Args = append(t.Args, chance(rng, rng.Intn(depth)))
	}
	if kind == 7 && rng.Intn(3) > 0 {
		t.Args[1] = term.Term{Kind: 5, Args: slices.Clone(t.Args[1:])}
	}
	return t
}

// read: the terms of texts.
func read(t *testing.T, list ...string) []term.Term {
	t.Helper()
	var all []term.Term
	for _, s := range list {
		x, e := term.Parse(s)
		if e != api.OK {
			t.Fatalf("%q: %v", s, e)
		}
		all = append(all, x)
	}
	return all
}

// roomy: a copy of a term, each list of which has spare room.
func roomy(t term.Term) term.Term {
	args := make([]term.Term, 0, len(t.Args)+2)
	for _, a := range t.Args {
		args = append(args, roomy(a))
	}
	t.Args = args
	return t
}

// slots: all places of the lists of terms, with their spare room.
func slots(terms ...term.Term) []*term.Term {
	var list []*term.Term
	for _, t := range terms {
		args := t.Args[:cap(t.Args)]
		for i := range args {
			list = append(list, &args[i])
		}
		list = append(list, slots(args...)...)
	}
	return list
}

// scrub: writes over all lists of terms and their spare room.
func scrub(terms ...term.Term) {
	for _, s := range slots(terms...) {
		*s = term.Term{Kind: 77, Name: "scrubbed"}
	}
}

// clean: is the spare room of all lists of a term as it was made?
func clean(t term.Term) bool {
	for i, a := range t.Args[:cap(t.Args)] {
		if i >= len(t.Args) && (a.Kind != 0 || a.Name != "" || a.Args != nil) || !clean(a) {
			return false
		}
	}
	return true
}

// numbered: names from one number on, of one length.
func numbered(from, count int) []term.Term {
	list := []term.Term{}
	for i := range count {
		n := from + i
		list = append(list, term.Of("n"+string([]byte{byte('0' + n/1000%10), byte('0' + n/100%10), byte('0' + n/10%10), byte('0' + n%10)})))
	}
	return list
}
