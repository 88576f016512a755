package term

import (
	"cmp"
	"slices"

	"intaglio/api"
)

// Compare: -1, 0 or 1, as a term stands ahead of another one, is it, or stands behind it.
func Compare(a, b Term) int {
	switch {
	case a.Kind != b.Kind:
		return cmp.Compare(a.Kind, b.Kind)
	case a.Name != b.Name:
		return cmp.Compare(a.Name, b.Name)
	case len(a.Args) != len(b.Args):
		return cmp.Compare(len(a.Args), len(b.Args))
	}
	return slices.CompareFunc(a.Args, b.Args, Compare)
}

// Normal: the term in its one form: what two keys agree on is the same both ways.
func (t Term) Normal() Term {
	n := t.made(Term.Normal)
	if len(n.Args) != 2 {
		return n
	}
	if to := n.Args[1]; n.Kind == Agree && to.Kind == Public && len(to.Args) == 1 {
		n.Kind, n.Args[1] = Shared, to.Args[0]
	}
	if n.Kind == Shared && Compare(n.Args[0], n.Args[1]) > 0 {
		slices.Reverse(n.Args)
	}
	return n
}

// Parts: the term and all of which it is made, each once, in their order. What is no term has none: there could be more than can be told.
func (t Term) Parts() []Term {
	if t.Check() != api.OK {
		return nil
	}
	list := t.within(nil)
	slices.SortFunc(list, Compare)
	list = slices.CompactFunc(list, func(a, b Term) bool { return Compare(a, b) == 0 })
	for i, p := range list {
		list[i] = p.copied()
	}
	return list
}

// within is a list with a term and all of which it is made behind it.
func (t Term) within(list []Term) []Term {
	list = append(list, t)
	for _, a := range t.Args {
		list = a.within(list)
	}
	return list
}
