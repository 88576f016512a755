package post

import (
	"slices"

	"intaglio/api"
	"intaglio/frame"
)

// Publish: somebody leaves an offer, and others like it with a key for once each.
func (p *Post) Publish(name uint32, offer api.Frame, once ...api.Frame) api.Errno {
	who, known := p.people[name]
	if !known {
		return api.ErrMissing
	}
	if !isOffer(offer) {
		return api.ErrShape
	}
	for _, f := range once {
		if !isOffer(f) {
			return api.ErrShape
		}
	}
	if len(who.once)+len(once) > MaxOnce {
		return api.ErrFull
	}
	who.offer = written(offer)
	for _, f := range once {
		who.once = append(who.once, written(f))
	}
	return api.OK
}

// Fetch: an offer of somebody: one for once, as long as there are some.
func (p *Post) Fetch(name uint32) (api.Frame, api.Errno) {
	who, known := p.people[name]
	if !known || who.offer == nil {
		return api.Frame{}, api.ErrMissing
	}
	if len(who.once) == 0 {
		return frame.Decode(who.offer)
	}
	first := who.once[0]
	who.once = slices.Delete(who.once, 0, 1)
	return frame.Decode(first)
}

// Left: how many keys for once somebody has there.
func (p *Post) Left(name uint32) int {
	who, known := p.people[name]
	if !known {
		return 0
	}
	return len(who.once)
}

// isOffer tells whether a frame is a Bundle that can be written.
func isOffer(f api.Frame) bool {
	return f.Kind == frame.Bundle && written(f) != nil
}

// written is the bytes of a frame, nil if it can't be written.
func written(f api.Frame) []byte {
	b, _ := frame.Encode(f) // beside an error b is nil, which tells enough
	return b
}
