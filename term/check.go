package term

import "intaglio/api"

// shape is how the terms of a kind are made, and how they are written.
type shape struct {
	mark        string // what stands ahead of the name and the Args
	named       bool
	least, most int // how many Args there are
}

// shapes of all kinds.
var shapes = [...]shape{
	Atom:   {mark: "", named: true},
	Pair:   {mark: "p", least: 2, most: 2},
	Seal:   {mark: "s", least: 2, most: 2},
	Hash:   {mark: "h", named: true, least: 1, most: 4},
	Public: {mark: "^", least: 1, most: 1},
	Shared: {mark: "=", least: 2, most: 2},
	Agree:  {mark: "~", least: 2, most: 2},
	Sign:   {mark: "g", least: 2, most: 2},
}

// Check: is it a term?
func (t Term) Check() api.Errno {
	switch {
	case t.room(0, MaxSize) < 0:
		return api.ErrLong
	case !t.right():
		return api.ErrTerm
	}
	return api.OK
}

// room is how many terms more there may be behind a term that lies in so many others, if there may be so many from it on; below 0, if it is too great or lies too deep. It looks no further than that.
func (t Term) room(depth, room int) int {
	if depth > MaxDepth || room == 0 {
		return -1
	}
	room--
	for _, a := range t.Args {
		if room = a.room(depth+1, room); room < 0 {
			return -1
		}
	}
	return room
}

// right tells whether a term and all within it are made as their kinds are.
func (t Term) right() bool {
	if t.Kind < Atom || t.Kind > Sign {
		return false
	}
	s := shapes[t.Kind]
	if len(t.Args) < s.least || len(t.Args) > s.most {
		return false
	}
	if s.named && !isName(t.Name) || !s.named && t.Name != "" {
		return false
	}
	for _, a := range t.Args {
		if !a.right() {
			return false
		}
	}
	return true
}

// isName: may something be called so?
func isName(s string) bool {
	if s == "" || len(s) > MaxName {
		return false
	}
	for _, c := range []byte(s) {
		if (c < 'a' || c > 'z') && (c < '0' || c > '9') {
			return false
		}
	}
	return true
}
