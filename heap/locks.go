package heap

import "seesaw/api"

// nobody is the owner of a stripe that has none; no thread has that number.
const nobody = -1

// locks are stripes, each with an owner and a version, and the clock.
type locks struct {
	stripes  int // how many there are
	owners   [api.MaxVars]int
	versions [api.MaxVars]int
	clock    int
	limit    int
}

// unlocked are so many stripes that nobody owns.
func unlocked(stripes, limit int) locks {
	l := locks{stripes: stripes, limit: limit}
	for s := range stripes {
		l.owners[s] = nobody
	}
	return l
}

// is tells whether there is such a stripe.
func (l *locks) is(s int) bool { return s >= 0 && s < l.stripes }

// owner is a stripe's owner.
func (l *locks) owner(s int) int {
	if !l.is(s) {
		return nobody
	}
	return l.owners[s]
}

// version is a stripe's version.
func (l *locks) version(s int) int {
	if !l.is(s) {
		return 0
	}
	return l.versions[s]
}

// own lets a thread own a stripe.
func (l *locks) own(s, who int) api.Errno {
	switch {
	case !l.is(s):
		return api.ErrNone
	case who < 0 || who >= api.MaxThreads:
		return api.ErrArg
	case l.owners[s] != nobody:
		return api.ErrTwice
	}
	l.owners[s] = who
	return api.OK
}

// owned says why a thread may not let a stripe go, if it may not.
func (l *locks) owned(s, who int) api.Errno {
	switch {
	case !l.is(s):
		return api.ErrNone
	case who == nobody || l.owners[s] != who: // nobody is not one that owns what has no owner
		return api.ErrState
	}
	return api.OK
}

// let lets a stripe go.
func (l *locks) let(s, who int) api.Errno {
	e := l.owned(s, who)
	if e == api.OK {
		l.owners[s] = nobody
	}
	return e
}

// free lets a stripe go, with a version.
func (l *locks) free(s, who, version int) api.Errno {
	if e := l.owned(s, who); e != api.OK {
		return e
	}
	if version < l.versions[s] || version > l.clock {
		return api.ErrArg
	}
	l.versions[s] = version
	return l.let(s, who)
}

// bump lets the clock go on.
func (l *locks) bump() (int, api.Errno) {
	if l.clock >= l.limit {
		return 0, api.ErrClock
	}
	l.clock++
	return l.clock, api.OK
}
