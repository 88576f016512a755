package knows

import (
	"slices"

	"intaglio/term"
)

// set is terms in their one form, each once, in their order.
type set []term.Term

// place is where a term stands, or would stand, and whether it does.
func (s set) place(t term.Term) (int, bool) {
	return slices.BinarySearchFunc(s, t, term.Compare)
}

// has tells whether a term is in the set.
func (s set) has(t term.Term) bool {
	_, there := s.place(t)
	return there
}

// add puts a term into the set, and tells whether it is new there.
func (s *set) add(t term.Term) bool {
	i, there := s.place(t)
	if !there {
		*s = slices.Insert(*s, i, t)
	}
	return !there
}

// makes tells whether a term in its one form can be put together from what is in the set.
func (s set) makes(t term.Term) bool {
	switch {
	case s.has(t):
		return true
	case t.Kind == term.Atom:
		return false
	case t.Kind == term.Shared:
		return s.agrees(t.Args[0], t.Args[1])
	}
	for _, a := range t.Args {
		if !s.makes(a) {
			return false
		}
	}
	return true
}

// agrees tells whether what two keys agree on can be made: of one of them, and the public one of the other. Each key is looked at once, as they may be nested.
func (s set) agrees(a, b term.Term) bool {
	first, second := s.makes(a), s.makes(b)
	return first && (second || s.has(public(b))) || second && s.has(public(a))
}

// public is the public key of a secret one.
func public(t term.Term) term.Term {
	return term.Term{Kind: term.Public, Args: []term.Term{t}}
}
