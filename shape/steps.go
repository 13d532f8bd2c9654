package shape

import "seesaw/api"

// begin is a Begin.
func (c *Checker) begin(t *thread, _ int, e api.Event) bool {
	if e.Tx != t.commits || e.V < c.clock {
		return false
	}
	c.clock = e.V
	*t = thread{where: reads, commits: t.commits, rv: e.V, last: none}
	return true
}

// look is a Look.
func (c *Checker) look(t *thread, s int, e api.Event) bool {
	if c.stripes[s].owner != nobody || e.V < c.stripes[s].version || e.V > t.rv {
		return false
	}
	c.stripes[s].version = e.V
	t.where, t.at, t.seen = looked, s, e.V
	return true
}

// load is a Load.
func (c *Checker) load(t *thread, s int, e api.Event) bool {
	if s != t.at || !c.still(t) {
		return false
	}
	t.where, t.read[s] = reads, true
	return true
}

// lock is a Lock.
func (c *Checker) lock(t *thread, s int, e api.Event) bool {
	if s <= t.last || c.stripes[s].owner != nobody {
		return false
	}
	c.stripes[s].owner = e.Thread
	t.where, t.last = locks, s
	return true
}

// bump is a Bump.
func (c *Checker) bump(t *thread, _ int, e api.Event) bool {
	if e.V <= c.clock {
		return false
	}
	c.clock = e.V
	t.where, t.wv, t.last = checks, e.V, none
	if t.wv == t.rv+1 {
		t.read = set{} // nobody has bumped since it began: there is nothing to check
	}
	return true
}

// check is a Check.
func (c *Checker) check(t *thread, s int, e api.Event) bool {
	if s != t.next() || c.outdated(t, s, e.Thread) {
		return false
	}
	t.last = s
	return true
}

// outdated tells whether a stripe that a thread has read is not to be relied on any more.
func (c *Checker) outdated(t *thread, s, who int) bool {
	return c.stripes[s].anothers(who) || c.stripes[s].version > t.rv
}

// rest is a Commit of one that has written nothing.
func (c *Checker) rest(t *thread, _ int, e api.Event) bool {
	if e.V != 0 {
		return false
	}
	t.commits++
	return t.goes(between)
}

// commit is a Commit of one that has written.
func (c *Checker) commit(t *thread, _ int, e api.Event) bool {
	if t.next() != none || e.V != t.wv {
		return false
	}
	t.last = none
	return t.goes(stores)
}

// store is a Store.
func (c *Checker) store(t *thread, s int, e api.Event) bool {
	if e.At <= t.last || c.stripes[s].owner != e.Thread {
		return false
	}
	t.last, t.stored[s] = e.At, true
	return true
}

// free is a Free.
func (c *Checker) free(t *thread, s int, e api.Event) bool {
	if !c.stored(t, e.Thread) || s != c.least(e.Thread) {
		return false
	}
	c.stripes[s] = stripe{nobody, t.wv}
	if c.least(e.Thread) != none {
		return t.goes(frees)
	}
	t.commits++
	return t.goes(between)
}

// undo is an Undo.
func (c *Checker) undo(t *thread, s int, e api.Event) bool {
	if s != c.least(e.Thread) {
		return false
	}
	c.stripes[s].owner = nobody
	if c.least(e.Thread) != none {
		return true
	}
	if t.where == quits {
		return t.goes(ended)
	}
	return t.goes(between)
}

// held is an Abort of that Why, as those below are.
func (c *Checker) held(t *thread, s int, e api.Event) bool {
	return c.stripes[s].anothers(e.Thread) && t.goes(between)
}

// newer is one, too.
func (c *Checker) newer(t *thread, s int, _ api.Event) bool {
	return c.stripes[s].owner == nobody && c.stripes[s].version > t.rv && t.goes(between)
}

// moved is one, too.
func (c *Checker) moved(t *thread, s int, _ api.Event) bool {
	return s == t.at && !c.still(t) && t.goes(between)
}

// busy is one, too.
func (c *Checker) busy(t *thread, s int, e api.Event) bool {
	if s <= t.last || !c.stripes[s].anothers(e.Thread) {
		return false
	}
	if c.least(e.Thread) == none {
		return t.goes(between)
	}
	return t.goes(undoes)
}

// full is one, too.
func (c *Checker) full(t *thread, _ int, _ api.Event) bool { return t.goes(quits) }

// stale is one, too.
func (c *Checker) stale(t *thread, s int, e api.Event) bool {
	return s == t.next() && c.outdated(t, s, e.Thread) && t.goes(undoes)
}

// wait is a Wait.
func (c *Checker) wait(t *thread, _ int, _ api.Event) bool { return t.goes(waits) }

// wake is a Wake.
func (c *Checker) wake(t *thread, _ int, _ api.Event) bool {
	for n, s := range c.stripes {
		if t.read[n] && s.owner == nobody && s.version > t.rv {
			return t.goes(between)
		}
	}
	return false
}
