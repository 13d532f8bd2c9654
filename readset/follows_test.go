package readset_test

import (
	"slices"
	"testing"

	"seesaw/api"
	"seesaw/readset"
	"seesaw/sample"
)

// P10.3: each set of a few stripes, whatever row it is added in, and how often: what was added is there, nothing else is.
func TestP10_3(t *testing.T) {
	const stripes = 6
	for which := range 1 << stripes {
		var want []int
		for n := range stripes {
			if which>>n&1 == 1 {
				want = append(want, n)
			}
		}
		next := sample.Noise(uint64(which))
		for range 5 {
			s, p := made(t, 3, stripes)
			for range 2 {
				for _, n := range shuffled(next, want) {
					p = adds(t, s, p, n, -1, stripes)
					has(t, s, n, true)
				}
			}
			tells(t, s, want...)
			holds(t, s, p)
		}
	}
}

// shuffled is a list in another row.
func shuffled(next sample.Next, l []int) []int {
	l = slices.Clone(l)
	for i := range l {
		j := i + next(len(l)-i)
		l[i], l[j] = l[j], l[i]
	}
	return l
}

// P10.3: long rows of any numbers, over any stripes: what was there stays there.
func TestP10_3Rows(t *testing.T) {
	for seed := range uint64(200) {
		next := sample.Noise(seed)
		s, p := some(t, next)
		for range 60 {
			was := s.All()
			p = adds(t, s, p, next(api.MaxVars+4)-2, numbers()[next(len(numbers()))])
			for _, n := range was {
				has(t, s, n, true)
			}
			holds(t, s, p)
		}
	}
}

// P10.4: what may be looked at is stale for nobody; what is stale may not be looked at.
func TestP10_4(t *testing.T) {
	for _, rv := range rvs() {
		s, _ := made(t, rv, 1)
		looked, stale := 0, 0
		for _, version := range around(rv) {
			for _, owner := range owners() {
				for _, me := range append(owners(), numbers()...) {
					free, old := s.Look(owner, version) == 0, s.Stale(owner, version, me)
					if free && old {
						t.Fatal("looked at, but stale:", rv, owner, version, me)
					}
					if free {
						looked++
					}
					if old {
						stale++
					}
				}
			}
		}
		if looked == 0 || stale == 0 {
			t.Fatal("nothing of a kind:", rv, looked, stale)
		}
	}
}

// P10.5: who has read nothing never wakes.
func TestP10_5Nothing(t *testing.T) {
	for _, rv := range rvs() {
		s, _ := made(t, rv, api.MaxVars)
		for _, n := range []int{0, 1, api.MaxVars, api.MaxVars + 1} {
			for _, version := range around(rv) {
				wakes(t, s, all(-1, n), all(version, n), false)
				wakes(t, s, nil, all(version, n), false)
			}
		}
		next := sample.Noise(uint64(rv))
		for range 200 {
			who, versions := world(next, rv)
			wakes(t, s, who, versions, false)
		}
	}
}

// P10.5: who may wake may, if more was read.
func TestP10_5More(t *testing.T) {
	woke := 0
	for seed := range uint64(3000) {
		next := sample.Noise(seed)
		s, p := some(t, next)
		who, versions := world(next, p.rv)
		is := s.Wakes(who, versions)
		for _, n := range shuffled(next, rising(p.stripes)) {
			hands(t, "Add", s.Add(n), api.OK)
			then := s.Wakes(who, versions)
			if is && !then {
				t.Fatal("it may not wake any more:", p, n, who, versions)
			}
			is = then
		}
		if is {
			woke++
		}
	}
	if woke < 100 {
		t.Fatal("too few may wake:", woke)
	}
}

// rising are all numbers below one.
func rising(below int) []int {
	var l []int
	for n := range below {
		l = append(l, n)
	}
	return l
}

// P10.5: only a stripe that may not be looked at wakes: where of those that were read each may be looked at, none does; and with one of them alone what wakes is Newer.
func TestP10_5Looked(t *testing.T) {
	woke := 0
	for seed := range uint64(3000) {
		next := sample.Noise(seed)
		s, p := some(t, next)
		who, versions := world(next, p.rv)
		// Lists as long as there are stripes, so that what is there of each is seen here.
		for len(who) < p.stripes {
			who = append(who, -1)
		}
		for len(versions) < p.stripes {
			versions = append(versions, 0)
		}
		newer := false
		for _, n := range s.All() {
			alone, _ := made(t, p.rv, p.stripes, n)
			is := alone.Wakes(who, versions)
			if is && s.Look(who[n], versions[n]) == 0 {
				t.Fatal("it wakes, but may be looked at:", p, n, who, versions)
			}
			newer = newer || is
		}
		wakes(t, s, who, versions, newer)
		if newer {
			woke++
		}
	}
	if woke < 100 {
		t.Fatal("too few may wake:", woke)
	}
}

// P10.6: with a greater RV what may be looked at may still be; whatever was read.
func TestP10_6(t *testing.T) {
	for _, low := range rvs() {
		for _, high := range append(rvs(), min(low+1, api.MaxClock)) {
			if high < low {
				continue
			}
			a, _ := made(t, low, 3, 1)
			b, _ := made(t, high, 5, 0, 4)
			looked := 0
			for _, version := range append(around(low), around(high)...) {
				for _, owner := range owners() {
					if a.Look(owner, version) != 0 {
						continue
					}
					looked++
					looks(t, b, owner, version, 0)
				}
			}
			if looked == 0 {
				t.Fatal("nothing may be looked at:", low)
			}
		}
	}
}

// P10.1, P10.2, R1: whatever calls fuzzing comes to, on two sets by turns, one a copy of the other: each is what the chapter's words say.
func FuzzReadset(f *testing.F) {
	f.Add("")
	f.Add("\x02\x04\x01\x01\x02\x00\x03\x01\x00\x00\x02\x00\x05\x01\x01")
	f.Add("\x00\x1f\x07\x20\x1f\x01\x00\x07\x01\x20\x03\x03\x0b\x00\x01\x02\x00\x01\x02")
	f.Fuzz(func(t *testing.T, text string) {
		next := sample.Bytes(text)
		s, p := some(t, next)
		both, are := [2]*readset.Set{s, s.Copy()}, [2]plain{p, p}
		for range min(len(text), 100) {
			turn := next(2)
			if next(8) == 7 {
				both[1-turn], are[1-turn] = both[turn].Copy(), are[turn]
			}
			are[turn] = adds(t, both[turn], are[turn], next(api.MaxVars+3)-1)
			holds(t, both[0], are[0])
			holds(t, both[1], are[1])
			asked(t, both[turn], are[turn], next)
		}
	})
}
