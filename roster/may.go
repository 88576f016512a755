package roster

import "intaglio/api"

// may is why a step may not be done; OK, if it may.
func (r Roster) may(s Step) api.Errno {
	if s.Op == Create {
		return r.mayCreate(s)
	}
	if e := r.mayChange(s); e != api.OK {
		return e
	}
	if s.Op == Add {
		return r.mayAdd(s)
	}
	return r.mayTouch(s)
}

// mayCreate is why nobody may make a group, or not so.
func (r Roster) mayCreate(s Step) api.Errno {
	switch {
	case len(r.Members) > 0:
		return api.ErrTwice
	case s.By != s.To:
		return api.ErrRole
	}
	return api.OK
}

// mayChange is why somebody may not change a group at all: only admins do, but all may leave it themselves.
func (r Roster) mayChange(s Step) api.Errno {
	by, there := r.Find(s.By)
	switch {
	case !there:
		return api.ErrRole
	case s.Op == Leave && s.By != s.To:
		return api.ErrRole
	case s.Op != Leave && !by.Admin:
		return api.ErrRole
	}
	return api.OK
}

// mayAdd is why nobody is added, or not this one.
func (r Roster) mayAdd(s Step) api.Errno {
	_, there := r.Find(s.To)
	switch {
	case there:
		return api.ErrTwice
	case len(r.Members) >= MaxMembers:
		return api.ErrFull
	}
	return api.OK
}

// mayTouch is why what somebody is may not change so. A group that goes on keeps an admin.
func (r Roster) mayTouch(s Step) api.Errno {
	to, there := r.Find(s.To)
	last := to.Admin && r.admins() == 1
	switch {
	case !there:
		return api.ErrMissing
	case s.Op == Promote && to.Admin:
		return api.ErrTwice
	case s.Op == Demote && !to.Admin:
		return api.ErrTwice
	case s.Op == Demote && last:
		return api.ErrRole
	case (s.Op == Remove || s.Op == Leave) && last && len(r.Members) > 1:
		return api.ErrRole
	}
	return api.OK
}
