package heap_test

import (
	"fmt"
	"math"
	"slices"
	"testing"

	"seesaw/api"
	"seesaw/heap"
	"seesaw/sample"
)

// P11.1, P11.2: the chapter's examples.
func TestP11_1Examples(t *testing.T) {
	h, e := heap.New([]int64{7, 8, 9}, 2, 5)
	hands(t, "New", e, api.OK)
	is(t, "Stripe of 0", h.Stripe(0), 0)
	is(t, "Stripe of 1", h.Stripe(1), 1)
	is(t, "Stripe of 2", h.Stripe(2), 0)
	hands(t, "Own", h.Own(0, 1), api.OK)
	hands(t, "Own of what is owned", h.Own(0, 2), api.ErrTwice)
	n, e := h.Bump()
	is(t, "Bump", n, 1)
	hands(t, "Bump", e, api.OK)
	hands(t, "Free", h.Free(0, 1, 1), api.OK)
	is(t, "Version", h.Version(0), 1)
	is(t, "Owner", h.Owner(0), -1)

	h, e = heap.New([]int64{7, 8, 9}, 2, 0)
	hands(t, "New with a limit of 0", e, api.OK)
	n, e = h.Bump()
	is(t, "Bump at a limit of 0", n, 0)
	hands(t, "Bump at a limit of 0", e, api.ErrClock)
}

// P11.1: each number of variables, of stripes, and each limit: those that may be are a heap as it begins, the others are none.
func TestP11_1New(t *testing.T) {
	for _, vars := range []int{0, 1, 2, 5, 6, 31, 32, 33, 34, 100} {
		init := counted(-3, vars)
		for _, stripes := range append(numbers(), vars-1, vars, vars+1) {
			for _, limit := range numbers() {
				if 1 <= vars && vars <= 32 && 1 <= stripes && stripes <= vars && 0 <= limit && limit <= 1<<40 {
					h, p := made(t, init, stripes, limit)
					holds(t, h, p)
					continue
				}
				if h, e := heap.New(init, stripes, limit); h != nil || e != api.ErrArg {
					t.Fatalf("New of %v, %d, %d: %v, %v", init, stripes, limit, h, e)
				}
			}
		}
	}
}

// P11.1: what New takes and refuses, at the ends, one by one, and more than one of these at once.
func TestP11_1NewEnds(t *testing.T) {
	for _, c := range []struct {
		vars, stripes, limit int
		want                 api.Errno
	}{
		{0, 1, 9, api.ErrArg}, {1, 1, 9, api.OK}, {api.MaxVars, 1, 9, api.OK}, {api.MaxVars + 1, 1, 9, api.ErrArg},
		{3, -1, 9, api.ErrArg}, {3, 0, 9, api.ErrArg}, {3, 1, 9, api.OK}, {3, 2, 9, api.OK}, {3, 3, 9, api.OK}, {3, 4, 9, api.ErrArg}, {1, 2, 9, api.ErrArg},
		{api.MaxVars, api.MaxVars, 9, api.OK}, {api.MaxVars, api.MaxVars + 1, 9, api.ErrArg}, {api.MaxVars + 1, api.MaxVars, 9, api.ErrArg}, {api.MaxVars + 1, api.MaxVars + 1, 9, api.ErrArg},
		{3, 2, -1, api.ErrArg}, {3, 2, 0, api.OK}, {3, 2, api.MaxClock, api.OK}, {3, 2, api.MaxClock + 1, api.ErrArg}, {3, 2, math.MinInt, api.ErrArg}, {3, 2, math.MaxInt, api.ErrArg},
		{0, 0, 9, api.ErrArg}, {0, 0, -1, api.ErrArg}, {0, 1, -1, api.ErrArg}, {3, 0, -1, api.ErrArg}, {3, 4, api.MaxClock + 1, api.ErrArg}, {api.MaxVars + 1, 0, api.MaxClock + 1, api.ErrArg},
		{1, 1, 0, api.OK}, {1, 1, api.MaxClock, api.OK}, {api.MaxVars, api.MaxVars, 0, api.OK}, {api.MaxVars, api.MaxVars, api.MaxClock, api.OK},
	} {
		h, e := heap.New(counted(1, c.vars), c.stripes, c.limit)
		if e != c.want || (h != nil) != (e == api.OK) {
			t.Fatalf("New of %+v: %v, %v", c, h, e)
		}
		if h != nil {
			sizes(t, h, c.vars, c.stripes, 0, c.limit)
		}
	}
	if h, e := heap.New(nil, 1, 1); h != nil || e != api.ErrArg {
		t.Fatal("New of no list:", h, e)
	}
}

// P11.1, R1: what New is handed is not changed by the heap, nor the heap by what becomes of it, with what is behind its end.
func TestR1New(t *testing.T) {
	all := counted(10, 9)
	init := all[:4]
	h, p := made(t, init, 2, 3)
	p = does(t, h, p, set(0, 70), own(0, 1), set(3, -71), bump(), free(0, 1, 1))
	tells(t, "what New was handed", all, counted(10, 9))
	clear(all)
	holds(t, h, p)
	tells(t, "Values", h.Values(), []int64{70, 11, 12, -71})
	other, q := made(t, init, 4, 1)
	holds(t, other, q)
	holds(t, h, p)
}

// P11.1, P11.2: of nil each call answers what the chapter says.
func TestP11_2Nil(t *testing.T) {
	var h *heap.Heap
	for range 2 {
		sizes(t, h, 0, 0, 0, 0)
		for _, n := range numbers() {
			is(t, "Stripe of nil", h.Stripe(n), -1)
			is(t, "Value of nil", h.Value(n), 0)
			is(t, "Owner of nil", h.Owner(n), -1)
			is(t, "Version of nil", h.Version(n), 0)
			for _, who := range numbers() {
				hands(t, "Own of nil", h.Own(n, who), api.ErrNil)
				hands(t, "Let of nil", h.Let(n, who), api.ErrNil)
				hands(t, "Free of nil", h.Free(n, who, n), api.ErrNil)
				hands(t, "Free of nil", h.Free(n, who, 0), api.ErrNil)
			}
			hands(t, "Set of nil", h.Set(n, 5), api.ErrNil)
		}
		n, e := h.Bump()
		is(t, "Bump of nil", n, 0)
		hands(t, "Bump of nil", e, api.ErrNil)
		tells(t, "Values of nil", h.Values(), nil)
		tells(t, "Owners of nil", h.Owners(), nil)
		tells(t, "Versions of nil", h.Versions(), nil)
		if c := h.Copy(); c != nil {
			t.Fatal("Copy of nil:", c)
		}
		is(t, "Same of nil and nil", heap.Same(h, nil), true)
		one, _ := made(t, []int64{0}, 1, 0)
		for _, other := range []*heap.Heap{one, new(heap.Heap)} {
			is(t, "Same of nil and a heap", heap.Same(h, other), false)
			is(t, "Same of a heap and nil", heap.Same(other, h), false)
		}
	}
}

// R1: one that New has not made has nothing; no call panics.
func TestR1Bare(t *testing.T) {
	for _, h := range []*heap.Heap{new(heap.Heap), new(heap.Heap).Copy()} {
		for _, n := range numbers() {
			is(t, "Stripe", h.Stripe(n), -1)
			is(t, "Value", h.Value(n), 0)
			is(t, "Owner", h.Owner(n), -1)
			is(t, "Version", h.Version(n), 0)
			hands(t, "Own", h.Own(n, 1), api.ErrNone)
			hands(t, "Let", h.Let(n, 0), api.ErrNone)
			hands(t, "Free", h.Free(n, 0, 0), api.ErrNone)
			hands(t, "Set", h.Set(n, 1), api.ErrNone)
		}
		n, e := h.Bump()
		is(t, "Bump", n, 0)
		hands(t, "Bump", e, api.ErrClock)
		sizes(t, h, 0, 0, 0, 0)
		tells(t, "Values", h.Values(), nil)
		tells(t, "Owners", h.Owners(), nil)
		tells(t, "Versions", h.Versions(), nil)
		is(t, "Same", heap.Same(h, new(heap.Heap)), true)
	}
}

// P11.2: of numbers that are no variable, or no stripe, there is nothing, also where all is at its greatest; of the others there is.
func TestP11_2Beyond(t *testing.T) {
	for _, c := range []struct{ vars, stripes int }{{1, 1}, {3, 2}, {3, 3}, {31, 5}, {32, 1}, {32, 31}, {32, 32}} {
		h, p := made(t, counted(100, c.vars), c.stripes, 4)
		p = does(t, h, p, bump(), bump())
		for s := range c.stripes {
			p = does(t, h, p, own(s, 3), free(s, 3, 2), own(s, 5))
		}
		for _, n := range append(numbers(), c.vars-1, c.vars, c.vars+1, c.stripes-1, c.stripes, c.stripes+1, -c.vars, -c.stripes) {
			stripe, value, owner, version := -1, int64(0), -1, 0
			if n >= 0 && n < c.vars {
				stripe, value = n%c.stripes, 100+int64(n)
			}
			if n >= 0 && n < c.stripes {
				owner, version = 5, 2
			}
			is(t, "Stripe", h.Stripe(n), stripe)
			is(t, "Value", h.Value(n), value)
			is(t, "Owner", h.Owner(n), owner)
			is(t, "Version", h.Version(n), version)
		}
		holds(t, h, p)
	}
}

// P11.1: each stripe by each thread: who is one owns it, and nothing else is another one; of what is no stripe, by who is no thread, or of what is owned it is refused.
func TestP11_1Own(t *testing.T) {
	for _, stripes := range []int{1, 2, 5, api.MaxVars} {
		for _, who := range numbers() {
			h, p := made(t, counted(0, api.MaxVars), stripes, 1)
			for s := range stripes {
				if who < 0 || who >= 6 {
					refuses(t, h, p, api.ErrArg, own(s, who))
					continue
				}
				p = does(t, h, p, own(s, who))
				is(t, "Owner", h.Owner(s), who)
				holds(t, h, p)
				for other := range api.MaxThreads {
					refuses(t, h, p, api.ErrTwice, own(s, other))
				}
			}
			for _, s := range []int{math.MinInt, -1, stripes, stripes + 1, api.MaxVars, math.MaxInt} {
				refuses(t, h, p, api.ErrNone, own(s, who))
			}
		}
	}
}

// P11.1: who owns a stripe lets it go; nobody else does, nor where nobody owns it; its version stays.
func TestP11_1Let(t *testing.T) {
	for who := range api.MaxThreads {
		h, p := made(t, counted(0, 5), 3, 9)
		p = does(t, h, p, bump(), own(1, who), free(1, who, 1))
		refuses(t, h, p, api.ErrState, let(1, who), let(0, who), let(1, -1), let(1, -2))
		p = does(t, h, p, own(1, who), own(2, (who+1)%api.MaxThreads))
		for _, other := range numbers() {
			if other != who {
				refuses(t, h, p, api.ErrState, let(1, other))
			}
		}
		refuses(t, h, p, api.ErrState, let(2, who), let(0, who))
		refuses(t, h, p, api.ErrNone, let(-1, who), let(3, who), let(api.MaxVars, who), let(math.MinInt, who), let(math.MaxInt, who))
		is(t, "Owner", h.Owner(1), who)
		p = does(t, h, p, let(1, who))
		is(t, "Owner", h.Owner(1), -1)
		is(t, "Version", h.Version(1), 1)
		holds(t, h, p)
		refuses(t, h, p, api.ErrState, let(1, who))
		p = does(t, h, p, own(1, 0))
		holds(t, h, p)
	}
}

// P11.1: with Free a stripe has no owner, and that version; who does not own it is refused.
func TestP11_1Free(t *testing.T) {
	for who := range api.MaxThreads {
		h, p := made(t, counted(0, 5), 3, 9)
		p = does(t, h, p, bump(), bump(), own(1, who), own(2, (who+1)%api.MaxThreads))
		for _, other := range numbers() {
			if other != who {
				refuses(t, h, p, api.ErrState, free(1, other, 2))
			}
		}
		refuses(t, h, p, api.ErrState, free(2, who, 2), free(0, who, 2), free(0, -1, 2))
		refuses(t, h, p, api.ErrNone, free(-1, who, 2), free(3, who, 2), free(api.MaxVars, who, 2), free(math.MinInt, who, 2), free(math.MaxInt, who, 2))
		p = does(t, h, p, free(1, who, 2))
		is(t, "Owner", h.Owner(1), -1)
		is(t, "Version", h.Version(1), 2)
		holds(t, h, p)
		refuses(t, h, p, api.ErrState, free(1, who, 2), free(1, -1, 2), let(1, who))
	}
}

// P11.1: Free with each version around the stripe's own one and the clock: from that one to the clock it is taken.
func TestP11_1FreeVersions(t *testing.T) {
	for clock := range 6 {
		for first := range clock + 1 {
			h, p := made(t, counted(0, 3), 2, 9)
			p = does(t, h, p, slices.Repeat([]call{bump()}, clock)...)
			p = does(t, h, p, own(1, 4), free(1, 4, first), own(1, 2))
			for _, version := range append(numbers(), first-1, first, first+1, clock-1, clock, clock+1) {
				if version < first || version > clock {
					refuses(t, h, p, api.ErrArg, free(1, 2, version))
					continue
				}
				c := h.Copy()
				q := does(t, c, p, free(1, 2, version))
				is(t, "Version", c.Version(1), version)
				is(t, "Owner", c.Owner(1), -1)
				holds(t, c, q)
				holds(t, h, p)
			}
		}
	}
}

// P11.1: where two rows of the table hold it is the upper one that is told.
func TestP11_1Rows(t *testing.T) {
	h, p := made(t, counted(0, 4), 2, 3)
	p = does(t, h, p, bump(), bump(), own(0, 1), free(0, 1, 1), own(0, 2))
	refuses(t, h, p, api.ErrNone, own(2, -1), own(2, api.MaxThreads), own(-1, -1), own(3, 6))           // no stripe, no thread
	refuses(t, h, p, api.ErrArg, own(0, -1), own(0, api.MaxThreads), own(0, math.MaxInt))               // no thread, owned
	refuses(t, h, p, api.ErrTwice, own(0, 2), own(0, 1))                                                // owned by that one, by another one
	refuses(t, h, p, api.ErrNone, let(2, 2), let(-1, -1), let(2, api.MaxThreads), let(3, 0))            // no stripe, not its own
	refuses(t, h, p, api.ErrState, let(0, -1), let(0, api.MaxThreads), let(1, -1), let(1, 6))           // not its own, no thread
	refuses(t, h, p, api.ErrNone, free(2, 2, 1), free(-1, -1, -1), free(2, 0, 9), free(3, 6, 9))        // no stripe, not its own, a bad version
	refuses(t, h, p, api.ErrState, free(0, 1, 0), free(0, 1, 3), free(0, -1, -1), free(1, -1, 9))       // not its own, a bad version
	refuses(t, h, p, api.ErrArg, free(0, 2, 0), free(0, 2, 3), free(0, 2, -1), free(0, 2, math.MaxInt)) // its own, a bad version
	refuses(t, h, p, api.ErrNone, set(4, 1), set(-1, 1), set(api.MaxVars, 1), set(math.MaxInt, 1))      // no variable
	p = does(t, h, p, bump())
	refuses(t, h, p, api.ErrClock, bump(), bump())
	does(t, h, p, free(0, 2, 1))
}

// P11.1: up to its limit the clock goes on, each time by 1, at it it does not any more.
func TestP11_1Bump(t *testing.T) {
	for _, limit := range []int{0, 1, 2, 7, 300} {
		h, p := made(t, []int64{4}, 1, limit)
		for n := 1; n <= limit; n++ {
			told, e := h.Bump()
			is(t, "Bump", told, n)
			hands(t, "Bump", e, api.OK)
			is(t, "Clock", h.Clock(), n)
			is(t, "Limit", h.Limit(), limit)
		}
		p.clock = limit
		holds(t, h, p)
		refuses(t, h, p, api.ErrClock, bump(), bump())
		p = does(t, h, p, own(0, 0), free(0, 0, limit), set(0, 5))
		holds(t, h, p)
	}
	h, p := made(t, []int64{4}, 1, api.MaxClock)
	p = does(t, h, p, slices.Repeat([]call{bump()}, 1000)...)
	sizes(t, h, 1, 1, 1000, 1<<40)
	holds(t, h, p)
}

// P11.1: each variable that there is has the value that it was given last, whatever it is; the others stay, and what is none is refused.
func TestP11_1Set(t *testing.T) {
	for _, vars := range []int{1, 2, 5, api.MaxVars} {
		h, p := made(t, counted(1, vars), (vars+1)/2, 1)
		for _, x := range values() {
			for v := range vars {
				p = does(t, h, p, set(v, x))
				is(t, "Value", h.Value(v), x)
				holds(t, h, p)
			}
			for _, v := range append(numbers(), vars, vars+1) {
				if v < 0 || v >= vars {
					refuses(t, h, p, api.ErrNone, set(v, x))
				}
			}
		}
	}
}

// P11.1: who sets is not asked: a variable whose stripe is owned by anybody, or nobody, is set.
func TestP11_1SetOwned(t *testing.T) {
	h, p := made(t, counted(0, 4), 2, 1)
	p = does(t, h, p, own(0, 3), set(0, 8), set(1, 9), set(2, 10))
	tells(t, "Values", h.Values(), []int64{8, 9, 10, 3})
	holds(t, h, p)
}

// P11.2, R1: what Values, Owners and Versions tell is new memory each time, with room behind it, too; what they told stays.
func TestR1Lists(t *testing.T) {
	h, p := made(t, counted(5, 4), 3, 9)
	p = does(t, h, p, bump(), own(0, 2), own(1, 4), free(1, 4, 1))
	spoiled(t, h.Values)
	spoiled(t, h.Owners)
	spoiled(t, h.Versions)
	holds(t, h, p)
	values, owners, versions := h.Values(), h.Owners(), h.Versions()
	p = does(t, h, p, set(0, 1), set(3, 2), let(0, 2), own(2, 5), own(1, 0), bump(), free(1, 0, 2))
	tells(t, "what Values told", values, []int64{5, 6, 7, 8})
	tells(t, "what Owners told", owners, []int{2, -1, -1})
	tells(t, "what Versions told", versions, []int{0, 1, 0})
	tells(t, "Values", h.Values(), []int64{1, 6, 7, 2})
	tells(t, "Owners", h.Owners(), []int{-1, -1, 5})
	tells(t, "Versions", h.Versions(), []int{0, 2, 0})
	holds(t, h, p)
}

// spoiled tells that a list is told again as it was, whatever becomes of the one that was told.
func spoiled[T int | int64](t *testing.T, list func() []T) {
	t.Helper()
	l, other := list(), list()
	was := slices.Clone(l)
	for i := range l {
		l[i] += 50
	}
	tells(t, "what was told too", other, was)
	l = append(l, 51, 52)
	clear(l[:cap(l)])
	tells(t, "what is told again", list(), was)
}

// P11.2: a copy has what the heap has, and goes its own way: each of both is gone on with, call by call, and the other one is as it was.
func TestP11_2Copy(t *testing.T) {
	for turn := range 2 {
		h, p := made(t, counted(3, 5), 3, 4)
		p = does(t, h, p, bump(), own(0, 1), own(2, 4), free(2, 4, 1), set(1, 9))
		both := [2]*heap.Heap{h, h.Copy()}
		holds(t, both[1], p)
		is(t, "Same of a copy", heap.Same(h, both[1]), true)
		then := p
		for _, c := range []call{set(0, -1), bump(), let(0, 1), own(2, 0), free(2, 0, 2), own(1, 5), set(4, 8), bump(), bump(), free(1, 5, 4)} {
			then = does(t, both[turn], then, c)
			holds(t, both[turn], then)
			holds(t, both[1-turn], p)
		}
		p = does(t, both[1-turn], p, own(1, 3), set(4, 7), bump(), free(1, 3, 2))
		holds(t, both[1-turn], p)
		holds(t, both[turn], then)
	}
}

// P11.2: copies of copies, each its own.
func TestP11_2Copies(t *testing.T) {
	a, p := made(t, counted(0, api.MaxVars), api.MaxVars, api.MaxClock)
	b := a.Copy()
	c := b.Copy()
	x, y, z := does(t, a, p, own(31, 0)), does(t, b, p, own(31, 1), bump()), does(t, c, p, set(31, 9))
	holds(t, a, x)
	holds(t, b, y)
	holds(t, c, z)
	holds(t, b.Copy(), y)
}

// P11.2: two heaps are the same where all is, however they came to it; where just one thing is another one they are not.
func TestP11_2Same(t *testing.T) {
	begin := []call{bump(), bump(), own(0, 1), free(0, 1, 1), own(1, 2), own(2, 3), set(1, 5)}
	for _, c := range []struct {
		name           string
		vars           []int64
		stripes, limit int
		calls          []call
		want           bool
	}{
		{"all", counted(0, 4), 3, 9, begin, true},
		{"by another way", counted(7, 4), 3, 9, []call{own(2, 3), own(0, 0), set(3, 3), bump(), let(0, 0), set(0, 0), own(0, 2), free(0, 2, 1), set(2, 2), own(1, 4), bump(), let(1, 4), set(1, 5), own(1, 2)}, true},
		{"with what was refused", counted(0, 4), 3, 9, append(slices.Clone(begin), own(0, 9), own(1, 1), let(0, 1), free(1, 2, 3), set(4, 1)), true},
		{"the first value", []int64{1, 1, 2, 3}, 3, 9, begin, false},
		{"the last value", []int64{0, 1, 2, 4}, 3, 9, begin, false},
		{"a value that was set", counted(0, 4), 3, 9, append(slices.Clone(begin), set(1, 4)), false},
		{"an owner more", counted(0, 4), 3, 9, append(slices.Clone(begin), own(0, 1)), false},
		{"an owner more, the first thread", counted(0, 4), 3, 9, append(slices.Clone(begin), own(0, 0)), false},
		{"an owner fewer", counted(0, 4), 3, 9, append(slices.Clone(begin), let(2, 3)), false},
		{"another owner", counted(0, 4), 3, 9, append(slices.Clone(begin), let(2, 3), own(2, 4)), false},
		{"the first version", counted(0, 4), 3, 9, append(slices.Clone(begin), own(0, 1), free(0, 1, 2)), false},
		{"the last version", counted(0, 4), 3, 9, append(slices.Clone(begin), free(2, 3, 1), own(2, 3)), false},
		{"the clock", counted(0, 4), 3, 9, append(slices.Clone(begin), bump()), false},
		{"the limit", counted(0, 4), 3, 8, begin, false},
		{"how many variables", counted(0, 5), 3, 9, begin, false},
		{"how many variables, fewer", counted(0, 3), 3, 9, begin, false},
		{"how many stripes", counted(0, 4), 4, 9, begin, false},
	} {
		a, p := made(t, counted(0, 4), 3, 9)
		does(t, a, p, begin...)
		b, q := made(t, c.vars, c.stripes, c.limit)
		does(t, b, q, c.calls...)
		is(t, "Same: "+c.name, heap.Same(a, b), c.want)
		is(t, "Same, turned round: "+c.name, heap.Same(b, a), c.want)
	}
}

// P11.2: heaps at their beginning, that have nothing but zeros: how many variables, or stripes, there are is not the same.
func TestP11_2SameSizes(t *testing.T) {
	type size struct{ vars, stripes, limit int }
	var l []size
	for _, vars := range []int{1, 2, 3, 31, 32} {
		for _, stripes := range []int{1, 2, 3, 31, 32} {
			for _, limit := range []int{0, 1, api.MaxClock} {
				if stripes <= vars {
					l = append(l, size{vars, stripes, limit})
				}
			}
		}
	}
	for _, one := range l {
		for _, other := range l {
			a, _ := made(t, make([]int64, one.vars), one.stripes, one.limit)
			b, _ := made(t, make([]int64, other.vars), other.stripes, other.limit)
			is(t, fmt.Sprint("Same of ", one, other), heap.Same(a, b), one == other)
		}
	}
}

// P11.2: a heap that has one stripe more, whoever owns that, is another one.
func TestP11_2SameStripes(t *testing.T) {
	for stripes := 1; stripes < api.MaxVars; stripes++ {
		for who := -1; who < api.MaxThreads; who++ {
			a, _ := made(t, make([]int64, api.MaxVars), stripes, 3)
			b, p := made(t, make([]int64, api.MaxVars), stripes+1, 3)
			if who >= 0 {
				does(t, b, p, own(stripes, who))
			}
			is(t, "Same of one stripe more", heap.Same(a, b), false)
			is(t, "Same of one stripe fewer", heap.Same(b, a), false)
		}
	}
}

// P11.2: any two heaps near one another are the same just if all that they have is.
func TestP11_2SameAny(t *testing.T) {
	same, unlike := 0, 0
	for seed := range uint64(2000) {
		next := sample.Noise(seed)
		a, p := made(t, counted(0, 2), 2, 2)
		b, q := made(t, counted(0, 2), 2, 2)
		for range 12 {
			p, q = does(t, a, p, tiny(next)), does(t, b, q, tiny(next))
			want := p.same(q)
			is(t, "Same", heap.Same(a, b), want)
			is(t, "Same, turned round", heap.Same(b, a), want)
			if want {
				same++
			} else {
				unlike++
			}
		}
	}
	if same < 500 || unlike < 500 {
		t.Fatal("too few of a kind:", same, unlike)
	}
}

// tiny is a call of few.
func tiny(next sample.Next) call {
	return []call{own(0, 0), own(1, 0), let(0, 0), free(0, 0, 1), free(1, 0, 1), bump(), set(0, int64(next(2))), set(1, 1)}[next(8)]
}

// P11.1, P11.2: long rows of any calls, as the chapter's words say a second time.
func TestP11_1Turns(t *testing.T) {
	told := map[string]int{}
	for seed := range uint64(300) {
		next := sample.Noise(seed)
		h, p := begun(t, next)
		for range 100 {
			c := some(next, p)
			told[fmt.Sprint(string(c.name), int(p.refusal(c)))]++
			p = does(t, h, p, c)
			holds(t, h, p)
		}
	}
	for _, one := range []string{"o0", "o5", "o1", "o6", "l0", "l5", "l7", "f0", "f5", "f7", "f1", "b0", "b41", "s0", "s5"} {
		if told[one] < 50 {
			t.Fatal("too few of ", one, told)
		}
	}
}
