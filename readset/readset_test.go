package readset_test

import (
	"math"
	"slices"
	"testing"

	"seesaw/api"
	"seesaw/readset"
	"seesaw/sample"
)

// P10.2: the chapter's examples.
func TestP10_2Examples(t *testing.T) {
	s, _ := made(t, 5, 4)
	looks(t, s, -1, 5, 0)
	looks(t, s, -1, 6, api.Newer)
	looks(t, s, 2, 5, api.Held)
	stales(t, s, 2, 5, 2, false)
	s, _ = made(t, 5, 4, 1, 3)
	wakes(t, s, []int{-1, -1, -1, -1}, []int{0, 6, 0, 4}, true)
	s, _ = made(t, 5, 4, 3)
	wakes(t, s, []int{-1, -1, -1, -1}, []int{0, 6, 0, 4}, false)
}

// P10.1: each RV with each number of stripes: those that may be are a set of none, and none is the others'.
func TestP10_1New(t *testing.T) {
	for _, rv := range numbers() {
		for _, stripes := range numbers() {
			if rv >= 0 && rv <= 1<<40 && stripes >= 1 && stripes <= 32 {
				s, p := made(t, rv, stripes)
				holds(t, s, p)
				continue
			}
			if s, e := readset.New(rv, stripes); s != nil || e != api.ErrArg {
				t.Fatalf("New of %d, %d: %v, %v", rv, stripes, s, e)
			}
		}
	}
}

// P10.1: what New takes and refuses, at the ends, one by one.
func TestP10_1NewEnds(t *testing.T) {
	for _, c := range []struct {
		rv, stripes int
		want        api.Errno
	}{
		{-1, 3, api.ErrArg}, {0, 3, api.OK}, {api.MaxClock, 3, api.OK}, {api.MaxClock + 1, 3, api.ErrArg},
		{3, 0, api.ErrArg}, {3, 1, api.OK}, {3, api.MaxVars, api.OK}, {3, api.MaxVars + 1, api.ErrArg}, {3, -1, api.ErrArg},
		{-1, 0, api.ErrArg}, {-1, api.MaxVars + 1, api.ErrArg}, {api.MaxClock + 1, 0, api.ErrArg}, {api.MaxClock + 1, api.MaxVars + 1, api.ErrArg},
		{0, 1, api.OK}, {0, api.MaxVars, api.OK}, {api.MaxClock, 1, api.OK}, {api.MaxClock, api.MaxVars, api.OK},
		{math.MinInt, 1, api.ErrArg}, {math.MaxInt, 1, api.ErrArg}, {0, math.MinInt, api.ErrArg}, {0, math.MaxInt, api.ErrArg},
	} {
		s, e := readset.New(c.rv, c.stripes)
		if e != c.want || (s != nil) != (e == api.OK) {
			t.Fatalf("New of %d, %d: %v, %v", c.rv, c.stripes, s, e)
		}
		if s != nil && s.RV() != c.rv {
			t.Fatalf("RV of %d: %d", c.rv, s.RV())
		}
	}
}

// P10.1: a new set has nothing of another one.
func TestP10_1NewOwn(t *testing.T) {
	a, p := made(t, 4, 6, 0, 3, 5)
	b, q := made(t, 4, 6)
	holds(t, b, q)
	q = adds(t, b, q, 1, 3)
	holds(t, a, p)
	holds(t, b, q)
	tells(t, a, 0, 3, 5)
	tells(t, b, 1, 3)
}

// P10.1: over each number of stripes: each that there is is added, once and again; each other one is refused, and changes nothing.
func TestP10_1Add(t *testing.T) {
	for stripes := 1; stripes <= api.MaxVars; stripes++ {
		s, p := made(t, 7, stripes)
		for n := range stripes {
			for _, bad := range []int{-1, stripes, stripes + 1, math.MinInt, math.MaxInt, -stripes, n - stripes, n + stripes, n + 1<<32} {
				hands(t, "Add of none", s.Add(bad), api.ErrArg)
				holds(t, s, p)
			}
			hands(t, "Add", s.Add(n), api.OK)
			p = p.add(n)
			holds(t, s, p)
			hands(t, "Add, again", s.Add(n), api.OK)
			holds(t, s, p)
		}
		hands(t, "Add of the last one", s.Add(stripes-1), api.OK)
		hands(t, "Add of one more", s.Add(stripes), api.ErrArg)
		hands(t, "Add of -1", s.Add(-1), api.ErrArg)
		holds(t, s, p)
	}
}

// P10.1: of numbers that are no stripe it has none, whatever was read.
func TestP10_1Has(t *testing.T) {
	for _, stripes := range []int{1, 2, 5, api.MaxVars - 1, api.MaxVars} {
		s, _ := made(t, 0, stripes)
		for n := range stripes {
			has(t, s, n, false)
			hands(t, "Add", s.Add(n), api.OK)
			has(t, s, n, true)
		}
		for _, n := range append(numbers(), stripes, stripes+1, 2*stripes, -stripes) {
			has(t, s, n, n >= 0 && n < stripes)
		}
	}
}

// P10.1: All of none is none; else rising, each stripe once, whatever row they were added in.
func TestP10_1All(t *testing.T) {
	s, _ := made(t, 1, 9)
	tells(t, s)
	for _, c := range []struct{ add, want []int }{
		{[]int{0}, []int{0}}, {[]int{8}, []int{8}}, {[]int{8, 0}, []int{0, 8}}, {[]int{5, 5, 5}, []int{5}}, {[]int{3, 1, 2, 1, 3}, []int{1, 2, 3}},
		{[]int{8, 7, 6, 5, 4, 3, 2, 1, 0}, []int{0, 1, 2, 3, 4, 5, 6, 7, 8}}, {[]int{0, 8, 1, 7, 2, 6, 0, 8}, []int{0, 1, 2, 6, 7, 8}}, {[]int{-1, 9, 4, -9}, []int{4}},
	} {
		s, p := made(t, 1, 9, c.add...)
		tells(t, s, c.want...)
		holds(t, s, p)
	}
}

// P10.1, R1: what All tells is new memory each time, with room behind it, too.
func TestP10_1AllNew(t *testing.T) {
	s, p := made(t, 2, 8, 1, 4, 6)
	was, other := s.All(), s.All()
	for i := range other {
		other[i] = 7
	}
	other = append(other, 3)
	clear(other[:cap(other)])
	tells(t, s, 1, 4, 6)
	holds(t, s, p)
	p = adds(t, s, p, 0, 5)
	if !slices.Equal(was, []int{1, 4, 6}) {
		t.Fatal("what was told is another one now:", was)
	}
	tells(t, s, 0, 1, 4, 5, 6)
	holds(t, s, p)
}

// P10.1: its RV is what it was made with, whatever is added, or asked.
func TestP10_1RV(t *testing.T) {
	for _, rv := range rvs() {
		s, p := made(t, rv, 3)
		for _, n := range []int{0, 2, 3, -1} {
			p = adds(t, s, p, n)
			s.Look(-1, rv+1)
			s.Stale(1, rv+2, 2)
			s.Wakes(nil, []int{rv + 3, rv + 3, rv + 3})
			if s.RV() != rv {
				t.Fatal(rv, s.RV())
			}
		}
		holds(t, s, p)
	}
}

// P10.1, P10.2: of nil each call answers what the chapter says.
func TestP10_1Nil(t *testing.T) {
	var s *readset.Set
	for range 2 {
		for _, n := range numbers() {
			hands(t, "Add of nil", s.Add(n), api.ErrNil)
			has(t, s, n, false)
			for _, owner := range owners() {
				looks(t, s, owner, n, 0)
				stales(t, s, owner, n, 0, false)
				stales(t, s, owner, n, owner, false)
				wakes(t, s, all(owner, 40), all(n, 40), false)
			}
		}
		tells(t, s)
		if rv := s.RV(); rv != 0 {
			t.Fatal("RV of nil:", rv)
		}
		wakes(t, s, nil, nil, false)
		if c := s.Copy(); c != nil {
			t.Fatal("Copy of nil:", c)
		}
	}
}

// R1: one that New has not made is over no stripes, with the RV 0; no call panics.
func TestR1Bare(t *testing.T) {
	for _, s := range []*readset.Set{new(readset.Set), new(readset.Set).Copy()} {
		for _, n := range numbers() {
			hands(t, "Add", s.Add(n), api.ErrArg)
			has(t, s, n, false)
		}
		tells(t, s)
		holds(t, s, plain{})
		wakes(t, s, all(-1, 40), all(9, 40), false)
	}
}

// P10.2: a stripe that nobody owns may be looked at up to RV, and is Newer above; one that is owned is Held, whoever owns it, also where it would be Newer.
func TestP10_2Look(t *testing.T) {
	for _, rv := range rvs() {
		s, p := made(t, rv, 2)
		for range 2 { // having read nothing, and all: it does not hang on that
			for _, version := range around(rv) {
				want := uint8(0)
				if version > rv {
					want = api.Newer
				}
				looks(t, s, -1, version, want)
				for _, owner := range owners()[1:] {
					looks(t, s, owner, version, api.Held)
				}
			}
			holds(t, s, p)
			p = adds(t, s, p, 0, 1)
		}
	}
	s, _ := made(t, 7, 2)
	looks(t, s, -1, 6, 0)
	looks(t, s, -1, 7, 0)
	looks(t, s, -1, 8, api.Newer)
	looks(t, s, 0, 6, api.Held)
	looks(t, s, 0, 7, api.Held)
	looks(t, s, 0, 8, api.Held)
	looks(t, s, -2, 6, api.Held)
	looks(t, s, -2, 8, api.Held)
}

// P10.2: a stripe above RV is stale for each thread; up to RV one's own is not, nobody's is not, each other one is.
func TestP10_2Stale(t *testing.T) {
	for _, rv := range rvs() {
		s, p := made(t, rv, 2)
		for range 2 {
			for _, version := range around(rv) {
				for _, me := range owners() {
					stales(t, s, me, version, me, version > rv)
					stales(t, s, -1, version, me, version > rv)
					for _, owner := range owners() {
						stales(t, s, owner, version, me, version > rv || owner != -1 && owner != me)
					}
				}
			}
			holds(t, s, p)
			p = adds(t, s, p, 0, 1)
		}
	}
	s, _ := made(t, 7, 2)
	for _, c := range []struct {
		owner, version, me int
		want               bool
	}{
		{3, 7, 3, false}, {3, 8, 3, true}, {3, 0, 3, false}, {2, 7, 3, true}, {2, 8, 3, true}, {2, 0, 3, true}, {-1, 7, 3, false}, {-1, 8, 3, true}, {0, 7, 3, true}, {0, 7, 0, false},
		{-2, 7, 3, true}, {-2, 7, -2, false}, {-2, 8, -2, true}, {-3, 7, -2, true}, {-1, 7, -1, false}, {-1, 8, -1, true}, {2, 7, -1, true}, {-2, 7, -1, true}, {-1, 7, -2, false},
	} {
		stales(t, s, c.owner, c.version, c.me, c.want)
	}
}

// P10.2: who may wake, by what was read, and what is there of its stripes.
func TestP10_2Wakes(t *testing.T) {
	for _, c := range []struct {
		read, owners, versions []int
		want                   bool
	}{
		{nil, []int{-1, -1, -1}, []int{9, 9, 9}, false}, // nothing read
		{nil, nil, nil, false},
		{[]int{1}, []int{-1, -1, -1}, []int{9, 5, 9}, false}, // not above RV
		{[]int{1}, []int{-1, -1, -1}, []int{9, 4, 9}, false},
		{[]int{1}, []int{-1, -1, -1}, []int{5, 6, 5}, true}, // above it
		{[]int{1}, []int{-1, 0, -1}, []int{9, 6, 9}, false}, // owned
		{[]int{1}, []int{-1, -2, -1}, []int{9, 6, 9}, false},
		{[]int{1}, []int{2, -1, 2}, []int{0, 6, 0}, true},
		{[]int{0, 1}, []int{2, -1}, []int{6, 5}, false}, // one is owned, another one not above: none is both
		{[]int{0, 2}, []int{2, -1, -1}, []int{6, 5, 6}, true},
		{[]int{0, 1, 2}, []int{-1, -1, -1}, []int{6, 5, 5}, true}, // the first one, the last one
		{[]int{0, 1, 2}, []int{-1, -1, -1}, []int{5, 5, 6}, true},
		{[]int{0, 1, 2}, []int{0, 1, 2}, []int{6, 6, 6}, false},
		{[]int{1}, nil, []int{9, 6}, true}, // beyond the owners: nobody
		{[]int{1}, []int{2}, []int{9, 6}, true},
		{[]int{1}, []int{}, []int{9, 5}, false},
		{[]int{1}, []int{-1, -1, -1}, nil, false}, // beyond the versions: 0
		{[]int{1}, []int{-1, -1, -1}, []int{9}, false},
		{[]int{0, 1}, []int{-1}, []int{9}, true},
		{[]int{1}, nil, nil, false},
		{[]int{2}, []int{-1, -1, -1, -1, -1}, []int{0, 0, 0, 9, 9}, false}, // more than there are stripes
		{[]int{2}, []int{0, 0, -1, 0, 0}, []int{0, 0, 6, 0, 0}, true},
	} {
		s, p := made(t, 5, 3, c.read...)
		wakes(t, s, c.owners, c.versions, c.want)
		holds(t, s, p)
	}
}

// P10.2: with an RV of 0 a version of 0 is not above, also where it is beyond the list; of 1 it is. Of the greatest one likewise.
func TestP10_2WakesEnds(t *testing.T) {
	for _, rv := range rvs() {
		s, _ := made(t, rv, api.MaxVars, 0, api.MaxVars-1)
		for _, version := range around(rv) {
			wakes(t, s, nil, []int{version}, version > rv)
			wakes(t, s, nil, one(api.MaxVars-1, version, 0), version > rv)
			wakes(t, s, nil, one(api.MaxVars-2, version, 0), false)
			wakes(t, s, all(-1, api.MaxVars), all(version, api.MaxVars), version > rv)
			for _, owner := range owners()[1:] {
				wakes(t, s, all(owner, api.MaxVars), all(version, api.MaxVars), false)
			}
		}
	}
}

// P10.2, R1: what is handed over stays, also behind its end.
func TestR1Stays(t *testing.T) {
	next := sample.Noise(3)
	for range 2000 {
		s, p := some(t, next)
		who, versions := world(next, p.rv)
		x, y := append(slices.Clone(who), 41, 42), append(slices.Clone(versions), 43, 44)
		a, b := slices.Clone(x), slices.Clone(y)
		wakes(t, s, x[:len(who)], y[:len(versions)], p.wakes(who, versions))
		if !slices.Equal(x, a) || !slices.Equal(y, b) {
			t.Fatal("what was handed over is another one now:", a, x, b, y)
		}
		clear(x)
		clear(y)
		holds(t, s, p)
	}
}

// some is a set of any RV, over any stripes, which has any of them.
func some(t testing.TB, next sample.Next) (*readset.Set, plain) {
	t.Helper()
	s, p := made(t, rvs()[next(len(rvs()))], 1+next(api.MaxVars))
	for range next(8) {
		p = adds(t, s, p, next(p.stripes+2)-1)
	}
	return s, p
}

// P10.1: a copy has what the set has, and goes its own way: each of both is gone on with, and the other one is as it was.
func TestP10_1Copy(t *testing.T) {
	for _, stripes := range []int{1, 2, 5, api.MaxVars} {
		for turn := range 2 {
			for _, had := range [][]int{nil, {0}, {stripes - 1}, {stripes / 2, 0}} {
				s, p := made(t, 6, stripes, had...)
				both := [2]*readset.Set{s, s.Copy()}
				holds(t, both[1], p)
				then := p
				for n := range stripes {
					then = adds(t, both[turn], then, n, stripes)
					holds(t, both[turn], then)
					holds(t, both[1-turn], p)
				}
				p = adds(t, both[1-turn], p, stripes-1)
				holds(t, both[1-turn], p)
				holds(t, both[turn], then)
			}
		}
	}
}

// P10.1: copies of copies, and of one of none, each its own.
func TestP10_1Copies(t *testing.T) {
	a, p := made(t, api.MaxClock, 4)
	b := a.Copy()
	c := b.Copy()
	for i, s := range []*readset.Set{b, c, a} {
		holds(t, s, p)
		hands(t, "Add", s.Add(i), api.OK)
	}
	holds(t, b, p.add(0))
	holds(t, c, p.add(1))
	holds(t, a, p.add(2))
	holds(t, c.Copy(), p.add(1))
}

// P10.1, P10.2: any sets, as the chapter's words say a second time, in any world.
func TestP10_2Turns(t *testing.T) {
	for seed := range uint64(300) {
		next := sample.Noise(seed)
		s, p := some(t, next)
		holds(t, s, p)
		for range 30 {
			asked(t, s, p, next)
		}
	}
}

// asked tells that any stripe, and any world, is answered as the chapter's words say.
func asked(t testing.TB, s *readset.Set, p plain, next sample.Next) {
	t.Helper()
	who, me, version := owners()[next(len(owners()))], owners()[next(len(owners()))], near(next, p.rv)
	looks(t, s, who, version, p.looked(who, version))
	stales(t, s, who, version, me, p.stale(who, version, me))
	l, versions := world(next, p.rv)
	wakes(t, s, l, versions, p.wakes(l, versions))
}
