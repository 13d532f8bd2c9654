package shape_test

import (
	"slices"
	"testing"

	"seesaw/api"
	"seesaw/sample"
	"seesaw/shape"
)

// traces are some that a checker lets come, over any sizes.
func traces(seed uint64, many int) []api.Trace {
	next := sample.Noise(seed)
	var l []api.Trace
	for range many {
		l = append(l, sample.Formed(next, sizes()[next(7)], 1+next(150)))
	}
	return l
}

// step lets an event come that may.
func (p past) step(t testing.TB, next sample.Next, c *shape.Checker) past {
	t.Helper()
	for e := range sample.Walk(next, api.Trace(p), p.may) {
		return p.follows(t, c, e)
	}
	return p
}

// P13.1, P13.2: behind each event of any trace: each event that is near is let come just if the chapter's words do, and what is told then is as they say; what is refused changes nothing, as what comes later tells, too.
func TestP13_1Any(t *testing.T) {
	next := sample.Noise(13)
	came := map[[2]uint8]int{}
	small := []api.Trace{sized(2, 1, 1), sized(2, 3, 2), sized(3, 2, 2), sized(2, 4, 3), sized(3, 3, 1)}
	for n := range 50 {
		size := small[n%len(small)]
		if n%20 == 0 {
			size = sizes()[n/20+4]
		}
		p, c := past(size), made(t, size)
		for range 50 {
			for _, e := range p.near() {
				if d := c.Copy(); len(p.follows(t, d, e).Events) == len(p.Events) {
					c = d // which was refused it
				}
			}
			p = p.step(t, next, c)
		}
		for _, e := range p.Events {
			came[[2]uint8{e.Kind, e.Why}]++
		}
	}
	if len(came) != 12+6 {
		t.Fatal("not each Kind and each Why came:", came)
	}
}

// every tells the same of all traces of so many events more, and how many there are.
func every(t *testing.T, p past, c *shape.Checker, more int) int {
	came := 0
	for _, e := range p.near() {
		if e.X != 0 || e.Kind == api.Begin && e.V > 1 || e.Kind == api.Bump && e.V > 2 {
			continue
		}
		d := c.Copy()
		if q := p.follows(t, d, e); len(q.Events) > len(p.Events) {
			came++
			if more > 1 {
				came += every(t, q, d, more-1)
			}
		}
	}
	return came
}

// P13.1: all traces of few events, of one thread, and of two: what may come is as the chapter's words say.
func TestP13_1Every(t *testing.T) {
	for size, more := range map[[3]int]int{{1, 1, 1}: 8, {1, 2, 2}: 6, {2, 1, 1}: 5} {
		size := sized(size[0], size[1], size[2])
		if came := every(t, past(size), made(t, size), more); came < 500 {
			t.Fatal("so few:", came)
		}
	}
}

// P13.3: what a well-formed trace begins by is one.
func TestP13_3(t *testing.T) {
	for _, tr := range traces(3, 60) {
		for n := range len(tr.Events) + 1 {
			begun := tr
			begun.Events = tr.Events[:n]
			checks(t, begun, n, api.OK)
		}
	}
}

// P13.1, P13.3: where a trace is not well-formed what is ahead of that place is, and with the event there it is not, whatever is behind.
func TestP13_3Bent(t *testing.T) {
	next, refused := sample.Noise(33), 0
	for _, tr := range traces(34, 40) {
		for _, tr := range sample.Bent(next, tr) {
			n, e := shape.Check(tr)
			if e == api.OK {
				is(t, "the place of one that is well-formed", n, len(tr.Events))
				continue
			}
			refused++
			all := tr.Events
			tr.Events = all[:n]
			checks(t, tr, n, api.OK)
			p := past(tr)
			is(t, "whether the event there may come", p.may(all[n]), false)
			for _, behind := range [][]api.Event{all[:n+1], all, append(slices.Clone(all), all...)} {
				tr.Events = behind
				checks(t, tr, n, api.ErrForm)
			}
		}
	}
	if refused < 1000 {
		t.Fatal("so few were refused:", refused)
	}
}

// P13.1: Check tells what Next tells, one by one.
func TestP13_1CheckNext(t *testing.T) {
	next := sample.Noise(35)
	for _, tr := range traces(36, 40) {
		for _, tr := range append(sample.Bent(next, tr), tr) {
			c, place, wrong := made(t, tr), len(tr.Events), api.OK
			for n, e := range tr.Events {
				if wrong = c.Next(e); wrong != api.OK {
					place = n
					break
				}
			}
			checks(t, tr, place, wrong)
		}
	}
}

// P13.4: between a Lock and the Free, or Undo, of that stripe by that thread no other event locks it, frees it, looks at it, or loads of it; and just then it has that owner.
func TestP13_4(t *testing.T) {
	locked := 0
	for _, tr := range traces(4, 150) {
		c, owner := made(t, tr), map[int]int{}
		for n, e := range tr.Events {
			who, owned := owner[e.At]
			switch e.Kind {
			case api.Lock:
				is(t, "whether a stripe that is locked is owned", owned, false)
				owner[e.At] = e.Thread
				locked++
			case api.Free, api.Undo:
				is(t, "whether a stripe that is let go is the thread's", owned && who == e.Thread, true)
				delete(owner, e.At)
			case api.Look:
				is(t, "whether a stripe that is looked at is owned", owned, false)
			case api.Load:
				_, owned := owner[e.At%tr.Stripes]
				is(t, "whether a stripe of which is loaded is owned", owned, false)
			}
			hands(t, "Next", c.Next(e), api.OK)
			for s := range tr.Stripes {
				if who, owned := owner[s]; owned && c.Owner(s) != who || !owned && c.Owner(s) != -1 {
					t.Fatalf("Owner of %d behind %d of %+v: %d", s, n, tr, c.Owner(s))
				}
			}
		}
	}
	if locked < 300 {
		t.Fatal("so few were locked:", locked)
	}
}

// P13.5: Bumps rise; no Begin is below a Bump ahead of it; what is freed has the version of its thread's last Bump.
func TestP13_5(t *testing.T) {
	freed := 0
	for _, tr := range traces(5, 150) {
		c, bumped, by := made(t, tr), 0, map[int]int{}
		for _, e := range tr.Events {
			hands(t, "Next", c.Next(e), api.OK)
			switch e.Kind {
			case api.Bump:
				if e.V <= bumped {
					t.Fatalf("%+v behind a Bump %d: %+v", e, bumped, tr)
				}
				bumped, by[e.Thread] = e.V, e.V
			case api.Begin:
				if e.V < bumped {
					t.Fatalf("%+v behind a Bump %d: %+v", e, bumped, tr)
				}
			case api.Free:
				is(t, "the version of what was freed", c.Version(e.At), by[e.Thread])
				freed++
			}
			if c.Clock() < bumped {
				t.Fatal("the clock fell:", c.Clock(), bumped)
			}
		}
	}
	if freed < 100 {
		t.Fatal("so few were freed:", freed)
	}
}

// without is a trace without all attempts that have an Abort, or a Wait, and how many these are.
func without(tr api.Trace) (api.Trace, int) {
	of, gone, attempts := make([]int, len(tr.Events)), map[int]bool{}, map[int]int{}
	for n, e := range tr.Events {
		if e.Kind == api.Begin {
			attempts[e.Thread] = n
		}
		of[n] = attempts[e.Thread]
		if e.Kind == api.Abort || e.Kind == api.Wait {
			gone[of[n]] = true
		}
	}
	var l []api.Event
	for n, e := range tr.Events {
		if !gone[of[n]] {
			l = append(l, e)
		}
	}
	tr.Events = l
	return tr, len(gone)
}

// P13.6: a well-formed trace without all attempts that aborted, or wait, is well-formed.
func TestP13_6(t *testing.T) {
	gone := 0
	for _, tr := range traces(6, 300) {
		rest, n := without(tr)
		checks(t, rest, len(rest.Events), api.OK)
		gone += n
	}
	if gone < 300 {
		t.Fatal("so few were left out:", gone)
	}
}

// P13.7: a thread's Begins tell how many commits it has ended; an attempt stores just to stripes that it has locked, and to all of them.
func TestP13_7(t *testing.T) {
	ended := 0
	for _, tr := range traces(7, 150) {
		c := made(t, tr)
		commits := [api.MaxThreads]int{}
		var locked, stored [api.MaxThreads]map[int]bool
		for _, e := range tr.Events {
			n := e.Thread
			switch e.Kind {
			case api.Begin:
				is(t, "a Begin's Tx", e.Tx, commits[n])
				is(t, "Commits", c.Commits(n), commits[n])
				locked[n], stored[n] = map[int]bool{}, map[int]bool{}
			case api.Lock:
				locked[n][e.At] = true
			case api.Store:
				is(t, "whether it has locked what it stores to", locked[n][e.At%tr.Stripes], true)
				stored[n][e.At%tr.Stripes] = true
			case api.Free:
				is(t, "whether it has stored to what it frees", stored[n][e.At], true)
				delete(locked[n], e.At)
			}
			hands(t, "Next", c.Next(e), api.OK)
			if len(locked[n]) == 0 && e.Kind == api.Free || e.Kind == api.Commit && e.V == 0 {
				commits[n]++
				ended++
			}
			is(t, "Commits", c.Commits(n), commits[n])
		}
	}
	if ended < 300 {
		t.Fatal("so few were ended:", ended)
	}
}

// P13.1 to P13.3, R1: whatever sizes and events fuzzing comes to: what may come, and what is told, is as the chapter's words say, and Check tells the same.
func FuzzShape(f *testing.F) {
	f.Add("\x03\x04\x02")
	f.Add("\x02\x01\x01\x00\x00\x01\x05\x02\x03\x09\x08\x07\x06\x05\x04\x03\x02\x01")
	f.Fuzz(func(t *testing.T, s string) {
		next := sample.Bytes(s[:min(len(s), 200)])
		size := sized(next(9)-1, next(6), next(6))
		c, e := shape.New(size.Threads, size.Vars, size.Stripes)
		if c == nil {
			hands(t, "New", e, api.ErrArg)
			checks(t, size, 0, api.ErrArg)
			return
		}
		p := past(size)
		for range len(s) / 4 {
			if next(3) > 0 {
				p = p.step(t, next, c)
				continue
			}
			l := p.near()
			p = p.follows(t, c, l[(next(256)<<8+next(256))%len(l)])
		}
		checks(t, api.Trace(p), len(p.Events), api.OK)
	})
}
