package readset_test

import (
	"math"
	"slices"
	"testing"

	"seesaw/api"
	"seesaw/readset"
	"seesaw/sample"
)

// numbers are those at which something might go wrong, rising.
func numbers() []int {
	return []int{math.MinInt, math.MinInt + 1, -1 << 40, -1 << 32, -33, -32, -3, -2, -1, 0, 1, 2, 5, 6, 31, 32, 33, 64, 255, 256, 1 << 32, api.MaxClock - 1, api.MaxClock, api.MaxClock + 1, math.MaxInt - 1, math.MaxInt}
}

// rvs are those that there may be, at their ends and between.
func rvs() []int { return []int{0, 1, 5, 1 << 32, api.MaxClock - 1, api.MaxClock} }

// around are the versions at which something might go wrong with this RV.
func around(rv int) []int { return append(numbers(), rv-1, rv, rv+1) }

// owners are those at which something might go wrong: nobody, threads, and what is no thread's number, but not nobody's.
func owners() []int { return []int{-1, 0, 1, 2, 5, 6, -2, -3, math.MinInt, math.MaxInt} }

// plain is the chapter's words a second time: an RV, over how many stripes, and what was added, in its row.
type plain struct {
	rv, stripes int
	added       []int
}

// add is what is there then; what was there stays.
func (p plain) add(n int) plain {
	p.added = append(slices.Clip(p.added), n)
	return p
}

// all are those that it has, rising, each once.
func (p plain) all() []int {
	all := slices.Clone(p.added)
	slices.Sort(all)
	return slices.Compact(all)
}

// looked is 0 where a stripe may be looked at, else why not.
func (p plain) looked(owner, version int) uint8 {
	owned, newer := owner != -1, version > p.rv
	if owned {
		return api.Held
	} else if newer {
		return api.Newer
	}
	return 0
}

// stale tells whether a stripe is stale for a thread.
func (p plain) stale(owner, version, me int) bool {
	if version > p.rv {
		return true
	}
	return !slices.Contains([]int{-1, me}, owner)
}

// wakes tells whether the attempt may wake.
func (p plain) wakes(owners, versions []int) bool {
	return slices.ContainsFunc(p.added, func(n int) bool {
		owner, version := -1, 0
		if len(owners) > n {
			owner = owners[n]
		}
		if len(versions) > n {
			version = versions[n]
		}
		return owner == -1 && version > p.rv
	})
}

// made is a set of this RV, over so many stripes, to which these were added.
func made(t testing.TB, rv, stripes int, add ...int) (*readset.Set, plain) {
	t.Helper()
	s, e := readset.New(rv, stripes)
	if s == nil || e != api.OK {
		t.Fatalf("New of %d, %d: %v, %v", rv, stripes, s, e)
	}
	return s, adds(t, s, plain{rv: rv, stripes: stripes}, add...)
}

// adds adds them one behind the other.
func adds(t testing.TB, s *readset.Set, p plain, add ...int) plain {
	t.Helper()
	for _, n := range add {
		if 0 <= n && n < p.stripes {
			hands(t, "Add", s.Add(n), api.OK)
			p = p.add(n)
		} else {
			hands(t, "Add", s.Add(n), api.ErrArg)
		}
	}
	return p
}

// holds tells that a set is just as p says.
func holds(t testing.TB, s *readset.Set, p plain) {
	t.Helper()
	if rv := s.RV(); rv != p.rv {
		t.Fatalf("RV of %+v: %d", p, rv)
	}
	tells(t, s, p.all()...)
	for n := -2; n <= api.MaxVars+1; n++ {
		has(t, s, n, slices.Contains(p.added, n))
	}
	for n := range api.MaxVars {
		wakes(t, s, one(n, -1, 0), one(n, p.rv+1, 0), slices.Contains(p.added, n))
	}
	looks(t, s, -1, p.rv, 0)
	looks(t, s, -1, p.rv+1, api.Newer)
}

// one is a list that ends with this at a place, and has something else ahead of it.
func one(place, x, ahead int) []int { return append(slices.Repeat([]int{ahead}, place), x) }

// all is a list of the same.
func all(x, many int) []int { return slices.Repeat([]int{x}, many) }

// hands tells that a call answers just this.
func hands(t testing.TB, name string, is, want api.Errno) {
	t.Helper()
	if is != want {
		t.Fatalf("%s: %v; want %v", name, is, want)
	}
}

// has tells whether it has a stripe.
func has(t testing.TB, s *readset.Set, n int, want bool) {
	t.Helper()
	if is := s.Has(n); is != want {
		t.Fatalf("Has of %d: %v; want %v", n, is, want)
	}
}

// tells tells that just these were read.
func tells(t testing.TB, s *readset.Set, want ...int) {
	t.Helper()
	if l := s.All(); !slices.Equal(l, want) {
		t.Fatalf("All: %v; want %v", l, want)
	}
}

// looks tells what is answered of a stripe that is looked at.
func looks(t testing.TB, s *readset.Set, owner, version int, want uint8) {
	t.Helper()
	if why := s.Look(owner, version); why != want {
		t.Fatalf("Look of %d, %d, RV %d: %d; want %d", owner, version, s.RV(), why, want)
	}
}

// stales tells what is answered of a stripe that may be stale.
func stales(t testing.TB, s *readset.Set, owner, version, me int, want bool) {
	t.Helper()
	if is := s.Stale(owner, version, me); is != want {
		t.Fatalf("Stale of %d, %d for %d, RV %d: %v; want %v", owner, version, me, s.RV(), is, want)
	}
}

// wakes tells whether it may wake.
func wakes(t testing.TB, s *readset.Set, owners, versions []int, want bool) {
	t.Helper()
	if is := s.Wakes(owners, versions); is != want {
		t.Fatalf("Wakes of %v, %v, which has %v, RV %d: %v; want %v", owners, versions, s.All(), s.RV(), is, want)
	}
}

// near is a version at this RV, or around it, or any.
func near(next sample.Next, rv int) int {
	if l := around(rv); next(4) == 0 {
		return l[next(len(l))]
	}
	return rv + next(3) - 1
}

// list is one of some numbers, so many as there may be stripes, or of none.
func list(next sample.Next, some func() int) []int {
	var l []int
	for range next(4) * next(12) {
		l = append(l, some())
	}
	return l
}

// world is owners and versions of stripes, near this RV.
func world(next sample.Next, rv int) (who, versions []int) {
	who = list(next, func() int {
		if next(2) == 0 {
			return -1
		}
		return owners()[next(len(owners()))]
	})
	return who, list(next, func() int { return near(next, rv) })
}
