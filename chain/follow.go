package chain

import (
	"slices"

	"intaglio/api"
	"intaglio/frame"
	"intaglio/sign"
)

// Held is the key of a message that was passed over.
type Held struct {
	Index uint32
	Key   api.Key
}

// Follower is another's chain.
type Follower struct {
	Place
	Public api.Key
	Held   []Held
}

// Follow: the chain that somebody shares.
func Follow(f api.Frame) (Follower, api.Errno) {
	if !writable(f, frame.Chain) {
		return Follower{}, api.ErrShape
	}
	place := Place{Group: f.Keys[0], Key: f.Keys[1], Epoch: f.Nums[0], Index: f.Nums[1]}
	return Follower{Place: place, Public: f.Keys[2]}, api.OK
}

// writable is whether a frame is of a kind, and can be written.
func writable(f api.Frame, kind int) bool {
	_, e := frame.Encode(f)
	return e == api.OK && f.Kind == kind
}

// Open: the text of a message, and the chain behind it.
func (w Follower) Open(f api.Frame) (Follower, []byte, api.Errno) {
	if !writable(f, frame.Post) {
		return w, nil, api.ErrShape
	}
	if f.Keys[0] != w.Group || f.Nums[0] != w.Epoch {
		return w, nil, api.ErrEpoch
	}
	ahead := front(f)
	if e := sign.Check(w.Public, f.Sigs[0], ahead, f.Data); e != api.OK {
		return w, nil, e
	}
	behind, key, e := w.find(f.Nums[1])
	if e != api.OK {
		return w, nil, e
	}
	// Who signs may still have sealed something else: what isn't opened must not have moved anything.
	text, e := box(key).Open(f.Data, ahead)
	if e != api.OK {
		return w, nil, e
	}
	return behind, text, api.OK
}

// Waiting: of which messages that were passed over the keys are held.
func (w Follower) Waiting() []uint32 {
	numbers := make([]uint32, len(w.Held))
	for i, h := range w.Held {
		numbers[i] = h.Index
	}
	return numbers
}

// find is the chain behind a message's key, and that key.
func (w Follower) find(number uint32) (Follower, api.Key, api.Errno) {
	if number < w.Index {
		return w.release(number)
	}
	w, e := w.skip(number)
	if e != api.OK {
		return Follower{}, api.Key{}, e
	}
	place, key, e := w.next()
	if e != api.OK {
		return Follower{}, api.Key{}, e
	}
	w.Place = place
	return w, key, api.OK
}

// release is the chain without the key that is held for a number, and that key.
func (w Follower) release(number uint32) (Follower, api.Key, api.Errno) {
	i := slices.IndexFunc(w.Held, func(h Held) bool { return h.Index == number })
	if i < 0 {
		return Follower{}, api.Key{}, api.ErrOld
	}
	key := w.Held[i].Key
	w.Held = slices.Concat(w.Held[:i], w.Held[i+1:]) // a new list: the one that was is that of other chains too
	return w, key, api.OK
}

// skip is the chain behind all messages ahead of a number, their keys held.
func (w Follower) skip(to uint32) (Follower, api.Errno) {
	if to-w.Index > MaxSkip { // it isn't below Index
		return Follower{}, api.ErrSkip
	}
	held := slices.Clip(w.Held) // other chains have it too: what is added goes to a new list
	for w.Index < to {
		place, key, e := w.next()
		if e != api.OK {
			return Follower{}, e
		}
		held = append(held, Held{Index: w.Index, Key: key})
		w.Place = place
	}
	if more := len(held) - MaxHeld; more > 0 {
		held = slices.Clone(held[more:]) // the keys ahead of these must not stay in a list that goes on
	}
	w.Held = held
	return w, api.OK
}
