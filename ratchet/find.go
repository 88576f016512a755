package ratchet

import (
	"slices"

	"intaglio/api"
)

// Held is the key of a letter that was passed over.
type Held struct {
	Theirs api.Key
	Number uint32
	Key    api.Key
}

// find is the state behind a letter's key, and that key.
func (s State) find(l letter, fresh api.Key) (State, api.Key, api.Errno) {
	i := slices.IndexFunc(s.Held, func(h Held) bool { return h.Theirs == l.key && h.Number == l.number })
	if i >= 0 {
		key := s.Held[i].Key
		s.Held = slices.Concat(s.Held[:i], s.Held[i+1:]) // a new list: the one that was is that of other states too
		return s, key, api.OK
	}
	var e api.Errno
	if !s.Got.Open || l.key != s.Theirs {
		if s, e = s.follow(l, fresh); e != api.OK {
			return State{}, api.Key{}, e
		}
	}
	if l.number < s.Got.Count {
		return State{}, api.Key{}, api.ErrOld
	}
	if s, e = s.skip(l.number); e != api.OK {
		return State{}, api.Key{}, e
	}
	got, key, e := s.Got.next()
	if e != api.OK {
		return State{}, api.Key{}, e
	}
	s.Got = got
	return s, key, api.OK
}

// follow is the state behind the first letter of a new key, which both chains hang on from there on.
func (s State) follow(l letter, fresh api.Key) (State, api.Errno) {
	s, e := s.skip(l.before) // what is left of the chain ahead
	if e != api.OK {
		return State{}, e
	}
	s.Theirs, s.Before = l.key, s.Send.Count
	if s.Root, s.Got, e = s.turn(); e != api.OK {
		return State{}, e
	}
	s.Own = fresh
	if s.Root, s.Send, e = s.turn(); e != api.OK {
		return State{}, e
	}
	return s, api.OK
}

// skip is the state behind all letters ahead of a number, their keys held.
func (s State) skip(to uint32) (State, api.Errno) {
	if !s.Got.Open {
		return s, api.OK
	}
	if int64(to)-int64(s.Got.Count) > MaxSkip {
		return State{}, api.ErrSkip
	}
	held := slices.Clip(s.Held) // other states have it too: what is added goes to a new list
	for s.Got.Count < to {
		got, key, e := s.Got.next()
		if e != api.OK {
			return State{}, e
		}
		held = append(held, Held{Theirs: s.Theirs, Number: s.Got.Count, Key: key})
		s.Got = got
	}
	if more := len(held) - MaxHeld; more > 0 {
		held = slices.Clone(held[more:]) // the keys ahead of these must not stay in a list that goes on
	}
	s.Held = held
	return s, api.OK
}
