package heap_test

import (
	"fmt"
	"slices"
	"testing"

	"seesaw/api"
	"seesaw/heap"
	"seesaw/sample"
)

// state is all that a heap tells, each thing by its name.
func state(h *heap.Heap) map[string]int64 {
	all := map[string]int64{"vars": int64(h.Vars()), "stripes": int64(h.Stripes()), "clock": int64(h.Clock()), "limit": int64(h.Limit())}
	for v, x := range h.Values() {
		all[fmt.Sprint("value ", v)] = x
		all[fmt.Sprint("stripe of ", v)] = int64(h.Stripe(v))
	}
	for s, who := range h.Owners() {
		all[fmt.Sprint("owner ", s)] = int64(who)
	}
	for s, version := range h.Versions() {
		all[fmt.Sprint("version ", s)] = int64(version)
	}
	return all
}

// changed are the names of what is another one now, or not there any more, or new.
func changed(was, is map[string]int64) []string {
	var l []string
	for name, x := range was {
		if y, there := is[name]; !there || x != y {
			l = append(l, name)
		}
	}
	for name := range is {
		if _, there := was[name]; !there {
			l = append(l, name)
		}
	}
	return l
}

// named are the names of what a call may change.
func named(c call) []string {
	switch c.name {
	case 'o', 'l':
		return []string{fmt.Sprint("owner ", c.at)}
	case 'f':
		return []string{fmt.Sprint("owner ", c.at), fmt.Sprint("version ", c.at)}
	case 'b':
		return []string{"clock"}
	}
	return []string{fmt.Sprint("value ", c.at)}
}

// follow tells what follows of a call, by what was told ahead of it, and is now: one owner, never back, just that.
func follow(t testing.TB, h *heap.Heap, c call) {
	t.Helper()
	was := state(h)
	owner, version := h.Owner(c.at), h.Version(c.at)
	_, e := answers(h, c)
	is := state(h)
	l := changed(was, is)
	if e != api.OK && len(l) > 0 {
		t.Fatalf("%+v was refused, but changed %v", c, l)
	}
	for _, name := range l {
		if !slices.Contains(named(c), name) {
			t.Fatalf("%+v changed %s", c, name)
		}
	}
	if e == api.OK {
		did(t, h, c, owner)
	}
	if is["clock"] < was["clock"] || is["clock"] > is["limit"] || h.Version(c.at) < version {
		t.Fatalf("%+v went back, or too far: %v, %v", c, was, is)
	}
	for s, version := range h.Versions() {
		if version < int(was[fmt.Sprint("version ", s)]) || version > h.Clock() {
			t.Fatalf("%+v: version %d of %d, clock %d", c, version, s, h.Clock())
		}
	}
}

// did tells that a call that was not refused might be done, and has done what it says, of a stripe that had this owner.
func did(t testing.TB, h *heap.Heap, c call, owner int) {
	t.Helper()
	switch c.name {
	case 'o':
		is(t, "who owned what was asked for", owner, -1)
		is(t, "who owns it", h.Owner(c.at), c.who)
	case 'l':
		is(t, "who owned what was let go", owner, c.who)
		is(t, "who owns it", h.Owner(c.at), -1)
	case 'f':
		is(t, "who owned what was freed", owner, c.who)
		is(t, "who owns it", h.Owner(c.at), -1)
		is(t, "its version", h.Version(c.at), c.version)
	case 's':
		is(t, "what it was set to", h.Value(c.at), c.x)
	}
}

// few are calls that are not alike on a heap of two variables and two stripes: of each of these, and of one beyond on each side; by two threads, and one beyond on each side.
func few() []call {
	l := []call{bump(), set(-1, 1), set(0, 0), set(0, 1), set(1, 1), set(2, 1)}
	for s := -1; s <= 2; s++ {
		for _, who := range []int{-1, 0, 5, 6} {
			l = append(l, own(s, who), let(s, who))
			for version := -1; version <= 3; version++ {
				l = append(l, free(s, who, version))
			}
		}
	}
	return l
}

// P11.1 to P11.5: each state that a small heap may come to, and each call there: it is answered as the chapter's words say, and what follows holds.
func TestP11_3States(t *testing.T) {
	h, p := made(t, []int64{0, 0}, 2, 2)
	type place struct {
		h *heap.Heap
		p plain
	}
	seen := map[string]bool{fmt.Sprint(p): true}
	for work := []place{{h, p}}; len(work) > 0; work = work[1:] {
		for _, c := range few() {
			follow(t, work[0].h.Copy(), c)
			h := work[0].h.Copy()
			p := does(t, h, work[0].p, c)
			holds(t, h, p)
			holds(t, work[0].h, work[0].p)
			is(t, "Same", heap.Same(h, work[0].h), p.same(work[0].p))
			if !seen[fmt.Sprint(p)] {
				seen[fmt.Sprint(p)] = true
				work = append(work, place{h, p})
			}
		}
	}
	// Of each stripe no owner, or one of two; versions up to the clock; of each variable two values.
	if want := 3 * 3 * (1 + 2*2 + 3*3) * 2 * 2; len(seen) != want {
		t.Fatal(len(seen), want)
	}
}

// P11.3: whoever asks for a stripe while one owns it is refused, and nobody but that one lets it go, whatever else is done between.
func TestP11_3(t *testing.T) {
	for seed := range uint64(300) {
		next := sample.Noise(seed)
		h, p := begun(t, next)
		s, who := next(len(p.versions)), next(api.MaxThreads)
		p = does(t, h, p, own(s, who))
		for range 40 {
			c := some(next, p)
			if mine := c.at == s && c.who == who; mine && (c.name == 'l' || c.name == 'f') {
				continue
			}
			p = does(t, h, p, c)
			is(t, "Owner", h.Owner(s), who)
			other := next(api.MaxThreads + 1)
			refuses(t, h, p, api.ErrTwice, own(s, other%api.MaxThreads))
			if other != who {
				refuses(t, h, p, api.ErrState, let(s, other), free(s, other, h.Clock()), free(s, other, h.Version(s)))
			}
		}
		if next(2) == 0 {
			p = does(t, h, p, let(s, who))
		} else {
			p = does(t, h, p, free(s, who, h.Clock()))
		}
		refuses(t, h, p, api.ErrState, let(s, who), free(s, who, h.Clock()))
		p = does(t, h, p, own(s, next(api.MaxThreads)))
		holds(t, h, p)
	}
}

// P11.3: all stripes are owned at once, each by its own one; each lets go just what is its own.
func TestP11_3All(t *testing.T) {
	h, p := made(t, counted(0, api.MaxVars), api.MaxVars, 1)
	for s := range api.MaxVars {
		p = does(t, h, p, own(s, s%api.MaxThreads))
	}
	for who := range api.MaxThreads {
		for s := range api.MaxVars {
			if s%api.MaxThreads != who {
				refuses(t, h, p, api.ErrTwice, own(s, who))
				refuses(t, h, p, api.ErrState, let(s, who), free(s, who, 0))
			}
		}
	}
	for s := range api.MaxVars {
		p = does(t, h, p, free(s, s%api.MaxThreads, 0))
		holds(t, h, p)
	}
	tells(t, "Owners", h.Owners(), slices.Repeat([]int{-1}, api.MaxVars))
}

// P11.4: long rows of any calls: the clock goes from 0 up to its limit, by 1 each time, and no version falls, or is above it.
func TestP11_4(t *testing.T) {
	for _, limit := range []int{0, 1, 5, 60, api.MaxClock} {
		next := sample.Noise(uint64(limit))
		h, p := made(t, counted(0, 6), 4, limit)
		bumps, versions := 0, 0
		for range 3000 {
			c := some(next, p)
			follow(t, h.Copy(), c)
			p = does(t, h, p, c)
			if c.name == 'b' {
				bumps++
			}
			is(t, "Clock", h.Clock(), min(bumps, limit))
			versions += slices.Max(h.Versions())
		}
		if limit > 0 && versions == 0 {
			t.Fatal("no version rose")
		}
	}
}

// P11.5: any calls of heaps of any sizes change just what they name, and nothing if they are refused.
func TestP11_5(t *testing.T) {
	for seed := range uint64(200) {
		next := sample.Noise(seed)
		h, p := begun(t, next)
		for range 40 {
			c := some(next, p)
			follow(t, h.Copy(), c)
			p = does(t, h, p, c)
		}
	}
}

// P11.5: each variable, and each stripe, of the greatest heap by itself: no other one is touched.
func TestP11_5Each(t *testing.T) {
	for _, stripes := range []int{1, 5, 31, api.MaxVars} {
		h, p := made(t, counted(40, api.MaxVars), stripes, 3)
		p = does(t, h, p, bump(), bump())
		for v := range api.MaxVars {
			follow(t, h.Copy(), set(v, -9))
		}
		for s := range stripes {
			follow(t, h.Copy(), own(s, 3))
			p = does(t, h, p, own(s, 4))
			follow(t, h.Copy(), let(s, 4))
			follow(t, h.Copy(), free(s, 4, 2))
		}
		follow(t, h.Copy(), bump())
		holds(t, h, p)
	}
}

// P11.5: what asks changes nothing, whatever it is asked of.
func TestP11_5Asks(t *testing.T) {
	h, p := made(t, counted(0, 5), 3, 4)
	p = does(t, h, p, bump(), own(1, 2), own(2, 0), free(2, 0, 1))
	was := h.Copy()
	for _, n := range numbers() {
		h.Stripe(n)
		h.Value(n)
		h.Owner(n)
		h.Version(n)
	}
	state(h)
	heap.Same(h, nil)
	is(t, "Same as it was", heap.Same(h, was), true)
	holds(t, h, p)
}

// P11.6: on heaps of all sizes: variables that are apart by how many stripes there are belong to the same stripe, those that are nearer do not, and each stripe has a variable.
func TestP11_6(t *testing.T) {
	for vars := 1; vars <= api.MaxVars; vars++ {
		for stripes := 1; stripes <= vars; stripes++ {
			h, p := made(t, make([]int64, vars), stripes, 1)
			has := make([]int, stripes)
			for v := range vars {
				s := h.Stripe(v)
				has[s]++
				if v+stripes < vars {
					is(t, "Stripe, apart", h.Stripe(v+stripes), s)
				}
				for near := 1; near < stripes && v+near < vars; near++ {
					if h.Stripe(v+near) == s {
						t.Fatal("the same stripe:", vars, stripes, v, v+near)
					}
				}
			}
			if slices.Contains(has, 0) {
				t.Fatal("a stripe without variables:", vars, stripes, has)
			}
			holds(t, h, p)
		}
	}
}

// P11.6: a variable's stripe is the same whatever is done.
func TestP11_6Stays(t *testing.T) {
	h, p := made(t, counted(0, 7), 3, 9)
	next := sample.Noise(6)
	for range 500 {
		p = does(t, h, p, some(next, p))
		for v := range 7 {
			is(t, "Stripe", h.Stripe(v), []int{0, 1, 2, 0, 1, 2, 0}[v])
		}
	}
}

// P11.1, P11.2, R1: whatever calls fuzzing comes to, on two heaps by turns, one a copy of the other: each is what the chapter's words say.
func FuzzHeap(f *testing.F) {
	f.Add("")
	f.Add("\x02\x00\x03\x01\x02\x00\x00\x01\x01\x00\x06\x01\x04\x00\x01\x00\x01")
	f.Add("\x00\x01\x1f\x1f\x03\x01\x00\x1f\x00\x05\x01\x07\x09\x1f\x00\x04\x00\x06\x01\x05\x1f\x00\x01")
	f.Fuzz(func(t *testing.T, text string) {
		next := sample.Bytes(text)
		h, p := begun(t, next)
		both, are := [2]*heap.Heap{h, h.Copy()}, [2]plain{p, p}
		for range min(len(text), 100) {
			turn := next(2)
			if next(8) == 7 {
				both[1-turn], are[1-turn] = both[turn].Copy(), are[turn]
			}
			c := some(next, are[turn])
			follow(t, both[turn].Copy(), c)
			are[turn] = does(t, both[turn], are[turn], c)
			holds(t, both[0], are[0])
			holds(t, both[1], are[1])
			is(t, "Same", heap.Same(both[0], both[1]), are[0].same(are[1]))
		}
	})
}
