package shape

import "seesaw/api"

// nobody is the owner of a stripe that has none; no thread has that number.
const nobody = -1

// none is no stripe, and no variable; it is below all of them.
const none = -1

// stripe is what is kept of one.
type stripe struct {
	owner   int
	version int // that is known
}

// anothers tells whether a stripe is owned by another thread than this one.
func (s stripe) anothers(who int) bool { return s.owner != nobody && s.owner != who }

// set is of each stripe whether it is in it.
type set [api.MaxVars]bool

// thread is what is kept of one.
type thread struct {
	where   int
	commits int // how many it has ended
	rv, wv  int // of its attempt, as all below
	at      int // the stripe that it has looked at
	seen    int // the version that it saw there
	read    set // of stripes
	stored  set // of stripes to which it has stored
	last    int // the stripe that it locked last, or has checked last, or the variable that it stored last
}

// next is the least stripe to check that is left.
func (t *thread) next() int {
	for s := t.last + 1; s < len(t.read); s++ {
		if t.read[s] {
			return s
		}
	}
	return none
}

// goes lets a thread be somewhere else.
func (t *thread) goes(where int) bool {
	t.where = where
	return true
}

// least is the least stripe that a thread owns.
func (c *Checker) least(who int) int {
	for n, s := range c.stripes {
		if s.owner == who {
			return n
		}
	}
	return none
}

// still tells whether the stripe that a thread has looked at is as it saw it.
func (c *Checker) still(t *thread) bool { return c.stripes[t.at] == stripe{nobody, t.seen} }

// stored tells whether a thread has stored to each stripe that it owns.
func (c *Checker) stored(t *thread, who int) bool {
	for n, s := range c.stripes {
		if s.owner == who && !t.stored[n] {
			return false
		}
	}
	return true
}
