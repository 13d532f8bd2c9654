package shape_test

import (
	"math"
	"slices"
	"testing"

	"seesaw/api"
	"seesaw/sample"
	"seesaw/shape"
)

// P13.1: the chapter's examples.
func TestP13_1Examples(t *testing.T) {
	size := sized(2, 2, 1)
	checks(t, of(t, size, "0 begin 0 0; 0 commit 0"), 2, api.OK)
	checks(t, of(t, size, "0 begin 0 0; 0 look 0 0; 0 load 1 5; 0 lock 0; 0 bump 1; 0 commit 1"), 6, api.OK)
	checks(t, of(t, size, "0 look 0 0"), 0, api.ErrForm)
	checks(t, of(t, size, "0 begin 0 0; 1 begin 0 0; 1 lock 0; 0 lock 0; 0 bump 1"), 3, api.ErrForm)
}

// P13.1: New, and Check, over each number of threads, variables and stripes: those that may be are a checker behind no events, the others are none.
func TestP13_1New(t *testing.T) {
	for _, threads := range numbers() {
		for _, vars := range numbers() {
			for _, stripes := range append(numbers(), vars-1, vars, vars+1) {
				size := sized(threads, vars, stripes)
				if 0 <= threads && threads <= 6 && 1 <= vars && vars <= 32 && 1 <= stripes && stripes <= vars {
					is(t, "what it tells", tells(made(t, size)), past(size).told())
					checks(t, size, 0, api.OK)
					continue
				}
				if c, e := shape.New(threads, vars, stripes); c != nil || e != api.ErrArg {
					t.Fatalf("New of %+v: %v, %v", size, c, e)
				}
				checks(t, size, 0, api.ErrArg)
				checks(t, of(t, size, "0 begin 0 0"), 0, api.ErrArg)
			}
		}
	}
}

// P13.1: what New takes and refuses at the ends, one by one, and where several are not so.
func TestP13_1NewEnds(t *testing.T) {
	for _, c := range []struct {
		size api.Trace
		want api.Errno
	}{
		{sized(-1, 1, 1), api.ErrArg}, {sized(0, 1, 1), api.OK}, {sized(1, 1, 1), api.OK}, {sized(api.MaxThreads, 1, 1), api.OK}, {sized(api.MaxThreads+1, 1, 1), api.ErrArg},
		{sized(1, -1, 1), api.ErrArg}, {sized(1, 0, 1), api.ErrArg}, {sized(1, 0, 0), api.ErrArg}, {sized(1, api.MaxVars, 1), api.OK}, {sized(1, api.MaxVars+1, 1), api.ErrArg},
		{sized(1, 5, -1), api.ErrArg}, {sized(1, 5, 0), api.ErrArg}, {sized(1, 5, 4), api.OK}, {sized(1, 5, 5), api.OK}, {sized(1, 5, 6), api.ErrArg},
		{sized(6, api.MaxVars, api.MaxVars), api.OK}, {sized(6, api.MaxVars, api.MaxVars+1), api.ErrArg}, {sized(6, api.MaxVars+1, api.MaxVars+1), api.ErrArg},
		{sized(math.MinInt, 5, 5), api.ErrArg}, {sized(math.MaxInt, 5, 5), api.ErrArg}, {sized(5, math.MinInt, 1), api.ErrArg}, {sized(5, math.MaxInt, 1), api.ErrArg}, {sized(5, 5, math.MinInt), api.ErrArg}, {sized(5, 5, math.MaxInt), api.ErrArg}, {sized(5, math.MinInt, math.MinInt), api.ErrArg}, {sized(-1, 0, 0), api.ErrArg},
	} {
		k, e := shape.New(c.size.Threads, c.size.Vars, c.size.Stripes)
		if e != c.want || (k != nil) != (e == api.OK) {
			t.Fatalf("New of %+v: %v, %v", c.size, k, e)
		}
		checks(t, c.size, 0, c.want)
	}
}

// P13.1, P13.2: of nil each call answers what the chapter says.
func TestP13_2Nil(t *testing.T) {
	var c *shape.Checker
	for range 2 {
		for _, n := range numbers() {
			is(t, "Owner of nil", c.Owner(n), -1)
			is(t, "Version of nil", c.Version(n), 0)
			is(t, "Commits of nil", c.Commits(n), 0)
			is(t, "Open of nil", c.Open(n), false)
		}
		is(t, "Clock of nil", c.Clock(), 0)
		for _, e := range past(sized(2, 2, 2)).near() {
			hands(t, "Next of nil", c.Next(e), api.ErrNil)
		}
		if d := c.Copy(); d != nil {
			t.Fatal("Copy of nil:", d)
		}
	}
}

// R1: a Checker that New has not made has no threads and no stripes: nothing may come.
func TestR1Zero(t *testing.T) {
	c := &shape.Checker{}
	for _, e := range past(sized(6, 32, 32)).near() {
		hands(t, "Next", c.Next(e), api.ErrForm)
	}
	is(t, "what it tells", tells(c), past{}.told())
	is(t, "what its copy tells", tells(c.Copy()), past{}.told())
}

// P13.2: what is kept, behind each event of a trace in which there is something of each, of each stripe and thread, and beyond.
func TestP13_2Kept(t *testing.T) {
	c := made(t, sized(3, 5, 3))
	for _, s := range []struct {
		event                    string
		owners, versions, commit [3]int
		open                     [3]bool
		clock                    int
	}{
		{"1 begin 0 4", [3]int{-1, -1, -1}, [3]int{}, [3]int{}, [3]bool{false, true, false}, 4},
		{"0 begin 0 4", [3]int{-1, -1, -1}, [3]int{}, [3]int{}, [3]bool{true, true, false}, 4},
		{"1 look 2 3", [3]int{-1, -1, -1}, [3]int{0, 0, 3}, [3]int{}, [3]bool{true, true, false}, 4},
		{"1 load 2 9", [3]int{-1, -1, -1}, [3]int{0, 0, 3}, [3]int{}, [3]bool{true, true, false}, 4},
		{"0 commit 0", [3]int{-1, -1, -1}, [3]int{0, 0, 3}, [3]int{1, 0, 0}, [3]bool{false, true, false}, 4},
		{"1 lock 1", [3]int{-1, 1, -1}, [3]int{0, 0, 3}, [3]int{1, 0, 0}, [3]bool{false, true, false}, 4},
		{"1 lock 2", [3]int{-1, 1, 1}, [3]int{0, 0, 3}, [3]int{1, 0, 0}, [3]bool{false, true, false}, 4},
		{"1 bump 6", [3]int{-1, 1, 1}, [3]int{0, 0, 3}, [3]int{1, 0, 0}, [3]bool{false, true, false}, 6},
		{"1 check 2", [3]int{-1, 1, 1}, [3]int{0, 0, 3}, [3]int{1, 0, 0}, [3]bool{false, true, false}, 6},
		{"1 commit 6", [3]int{-1, 1, 1}, [3]int{0, 0, 3}, [3]int{1, 0, 0}, [3]bool{false, true, false}, 6},
		{"2 begin 0 7", [3]int{-1, 1, 1}, [3]int{0, 0, 3}, [3]int{1, 0, 0}, [3]bool{false, true, true}, 7},
		{"1 store 1 8", [3]int{-1, 1, 1}, [3]int{0, 0, 3}, [3]int{1, 0, 0}, [3]bool{false, true, true}, 7},
		{"1 store 2 8", [3]int{-1, 1, 1}, [3]int{0, 0, 3}, [3]int{1, 0, 0}, [3]bool{false, true, true}, 7},
		{"1 free 1", [3]int{-1, -1, 1}, [3]int{0, 6, 3}, [3]int{1, 0, 0}, [3]bool{false, true, true}, 7},
		{"2 lock 0", [3]int{2, -1, 1}, [3]int{0, 6, 3}, [3]int{1, 0, 0}, [3]bool{false, true, true}, 7},
		{"2 abort 4 2", [3]int{2, -1, 1}, [3]int{0, 6, 3}, [3]int{1, 0, 0}, [3]bool{false, true, true}, 7},
		{"1 free 2", [3]int{2, -1, -1}, [3]int{0, 6, 6}, [3]int{1, 1, 0}, [3]bool{false, false, true}, 7},
		{"2 undo 0", [3]int{-1, -1, -1}, [3]int{0, 6, 6}, [3]int{1, 1, 0}, [3]bool{false, false, false}, 7},
		{"0 begin 1 7", [3]int{-1, -1, -1}, [3]int{0, 6, 6}, [3]int{1, 1, 0}, [3]bool{true, false, false}, 7},
		{"0 wait", [3]int{-1, -1, -1}, [3]int{0, 6, 6}, [3]int{1, 1, 0}, [3]bool{true, false, false}, 7},
		{"2 begin 0 7", [3]int{-1, -1, -1}, [3]int{0, 6, 6}, [3]int{1, 1, 0}, [3]bool{true, false, true}, 7},
		{"2 lock 2", [3]int{-1, -1, 2}, [3]int{0, 6, 6}, [3]int{1, 1, 0}, [3]bool{true, false, true}, 7},
		{"2 abort 6 0", [3]int{-1, -1, 2}, [3]int{0, 6, 6}, [3]int{1, 1, 0}, [3]bool{true, false, true}, 7},
		{"2 undo 2", [3]int{-1, -1, -1}, [3]int{0, 6, 6}, [3]int{1, 1, 0}, [3]bool{true, false, false}, 7},
	} {
		hands(t, s.event, c.Next(said(t, s.event)[0]), api.OK)
		for n := range 3 {
			is(t, s.event+": Owner", c.Owner(n), s.owners[n])
			is(t, s.event+": Version", c.Version(n), s.versions[n])
			is(t, s.event+": Commits", c.Commits(n), s.commit[n])
			is(t, s.event+": Open", c.Open(n), s.open[n])
		}
		is(t, s.event+": Clock", c.Clock(), s.clock)
		for _, n := range numbers() {
			if n < 0 || n > 2 {
				is(t, "Owner beyond", c.Owner(n), -1)
				is(t, "Version beyond", c.Version(n), 0)
				is(t, "Commits beyond", c.Commits(n), 0)
				is(t, "Open beyond", c.Open(n), false)
			}
		}
	}
}

// P13.2: stripes, and threads, up to the greatest numbers have owners, versions and commits of their own.
func TestP13_2Many(t *testing.T) {
	c := made(t, sized(6, 32, 32))
	for s := range 32 {
		is(t, "Owner", c.Owner(s), -1)
	}
	for thread := range 6 {
		hands(t, "Begin", c.Next(api.Event{Kind: api.Begin, Thread: thread, V: 9}), api.OK)
		for s := thread; s < 32; s += 6 {
			hands(t, "Lock", c.Next(api.Event{Kind: api.Lock, Thread: thread, At: s}), api.OK)
		}
	}
	for thread := range 6 {
		wv := 20 + thread
		for _, e := range []api.Event{{Kind: api.Bump, V: wv}, {Kind: api.Commit, V: wv}} {
			e.Thread = thread
			hands(t, "Bump, Commit", c.Next(e), api.OK)
		}
		for s := thread; s < 32; s += 6 {
			is(t, "Owner", c.Owner(s), thread)
			hands(t, "Store", c.Next(api.Event{Kind: api.Store, Thread: thread, At: s}), api.OK)
		}
		for s := thread; s < 32; s += 6 {
			is(t, "Version", c.Version(s), 0)
			is(t, "Commits", c.Commits(thread), 0)
			hands(t, "Free", c.Next(api.Event{Kind: api.Free, Thread: thread, At: s}), api.OK)
			is(t, "Version", c.Version(s), wv)
			is(t, "Owner", c.Owner(s), -1)
		}
		is(t, "Commits", c.Commits(thread), 1)
	}
}

// P13.2: a copy, and what it was made of, go their own way, also where the one is refused what the other is not.
func TestP13_2Copy(t *testing.T) {
	next := sample.Noise(4)
	for range 100 {
		size := sizes()[1+next(6)]
		first := walks(next, size, 1+next(30))
		one := behind(t, api.Trace(first))
		two, p, q := one.Copy(), first, first
		for range 12 {
			for _, l := range []struct {
				c *shape.Checker
				p *past
			}{{one, &p}, {two, &q}} {
				for e := range sample.Walk(next, size, func(e api.Event) bool { return l.p.may(e) }) {
					*l.p = l.p.follows(t, l.c, e)
					break
				}
			}
			is(t, "what the one tells", tells(one), p.told())
			is(t, "what the other tells", tells(two), q.told())
		}
	}
}

// P13.1, R1: Check leaves a trace as it was, with what is behind its events' end, and tells the same again.
func TestR1Check(t *testing.T) {
	all := said(t, "0 begin 0 0; 0 look 0 0; 0 load 0 5; 0 wait; 0 wait; 1 begin 0 0")
	was := slices.Clone(all)
	tr := sized(2, 2, 2)
	for range 2 {
		tr.Events = all[:4]
		checks(t, tr, 4, api.OK)
		tr.Events = all[:5]
		checks(t, tr, 4, api.ErrForm)
	}
	if !slices.Equal(all, was) {
		t.Fatal(all)
	}
}

// P13.1: what may not be by itself may not come, wherever: in each place what an event's Kind has not, and what is beyond its bounds, is refused.
func TestP13_1Itself(t *testing.T) {
	size := sized(3, 4, 3)
	p := past(of(t, size, "0 begin 0 5; 0 look 2 1; 0 load 2 7; 0 lock 0; 0 lock 1; 0 bump 9; 0 check 2; 0 commit 9; 0 store 0 1; 0 store 1 1; 0 free 0; 0 free 1; 0 begin 1 9; 0 wait"))
	c := made(t, size)
	came := past(size)
	for _, e := range p.Events {
		for _, bend := range []func(*api.Event){
			func(e *api.Event) { e.Kind = 0 }, func(e *api.Event) { e.Kind += 16 }, func(e *api.Event) { e.Kind = 255 },
			func(e *api.Event) { e.Thread = -1 }, func(e *api.Event) { e.Thread = 3 }, func(e *api.Event) { e.Thread += 256 }, func(e *api.Event) { e.Thread = math.MinInt },
			func(e *api.Event) { e.Tx = -1 }, func(e *api.Event) { e.Tx = 6 }, func(e *api.Event) { e.Tx += 1 << 32 },
			func(e *api.Event) { e.At = -1 }, func(e *api.Event) { e.At = 4 }, func(e *api.Event) { e.At += 1 << 32 }, func(e *api.Event) { e.At = math.MaxInt },
			func(e *api.Event) { e.V = -1 }, func(e *api.Event) { e.V = 1<<40 + 1 }, func(e *api.Event) { e.V = math.MaxInt },
			func(e *api.Event) { e.Why = 1 }, func(e *api.Event) { e.Why = 7 },
		} {
			bent := e
			bend(&bent)
			came = came.follows(t, c, bent)
		}
		if e.Kind != api.Load && e.Kind != api.Store {
			bent := e
			bent.X = 1
			came = came.follows(t, c, bent)
		}
		came = came.follows(t, c, e)
	}
	is(t, "how many came", len(came.Events), len(p.Events))
}

// P13.1: any X may come.
func TestP13_1Values(t *testing.T) {
	for _, x := range []int64{0, 1, -1, math.MaxInt64, math.MinInt64} {
		tr := of(t, sized(1, 1, 1), "0 begin 0 0; 0 look 0 0; 0 load 0 0; 0 lock 0; 0 bump 1; 0 commit 1; 0 store 0 0; 0 free 0")
		tr.Events[2].X, tr.Events[6].X = x, ^x
		checks(t, tr, 8, api.OK)
	}
}

// P13.1: clocks up to the greatest one.
func TestP13_1Clocks(t *testing.T) {
	size := sized(2, 2, 2)
	ahead := "0 begin 0 1099511627775; 0 look 1 1099511627775; 0 load 1 0; 0 lock 0; 0 bump 1099511627776; 0 commit 1099511627776; 0 store 0 0; 0 free 0; "
	checks(t, of(t, size, ahead+"0 begin 1 1099511627776; 0 look 0 1099511627776; 0 load 0 0; 0 lock 1; 0 abort 6 0; 0 undo 1"), 14, api.OK)
	checks(t, of(t, size, ahead+"0 begin 1 1099511627776; 0 lock 1; 0 bump 1099511627776"), 10, api.ErrForm)
	checks(t, of(t, size, ahead+"0 begin 1 1099511627775"), 8, api.ErrForm)
}

// long is a trace of so many events, as a thread that reads may have.
func long(events int) api.Trace {
	tr := sized(1, 1, 1)
	tr.Events = make([]api.Event, events)
	for n := range tr.Events {
		tr.Events[n].Kind = api.Look + uint8(n+1)%2
	}
	if events > 0 {
		tr.Events[0].Kind = api.Begin
	}
	return tr
}

// P13.1: Check of traces of few events, of as many as there may be, and of more.
func TestP13_1Long(t *testing.T) {
	for _, n := range []int{0, 1, 2, 3, 1000, api.MaxEvents - 1, api.MaxEvents} {
		checks(t, long(n), n, api.OK)
	}
	tr := long(api.MaxEvents)
	tr.Events[api.MaxEvents-1].Kind = api.Begin
	checks(t, tr, api.MaxEvents-1, api.ErrForm)
	for _, n := range []int{api.MaxEvents + 1, api.MaxEvents + 2, api.MaxEvents * 2} {
		tr := long(n)
		checks(t, tr, 0, api.ErrTooLarge)
		tr.Events[5].Kind = 0
		checks(t, tr, 0, api.ErrTooLarge)
		tr.Stripes = 2
		checks(t, tr, 0, api.ErrArg)
	}
}

// P13.1: Next behind as many events as there may be; those that were refused, and those of a copy, do not count.
func TestP13_1Most(t *testing.T) {
	tr := long(api.MaxEvents + 2)
	c := made(t, tr)
	hands(t, "Next", c.Next(tr.Events[0]), api.OK)
	for range api.MaxEvents + 2 {
		hands(t, "Next of what may not come", c.Next(tr.Events[0]), api.ErrForm)
	}
	for n := 1; n < api.MaxEvents-1; n++ {
		hands(t, "Next", c.Next(tr.Events[n]), api.OK)
	}
	last, bad := tr.Events[api.MaxEvents-1], api.Event{}
	other := c.Copy()
	hands(t, "Next of a copy", other.Next(bad), api.ErrForm)
	hands(t, "Next of a copy", other.Next(last), api.OK)
	for range 3 {
		hands(t, "Next behind the last one", other.Next(tr.Events[api.MaxEvents]), api.ErrTooLarge)
		hands(t, "Next behind the last one", other.Next(bad), api.ErrTooLarge)
		hands(t, "Next of a copy behind the last one", other.Copy().Next(last), api.ErrTooLarge)
	}
	is(t, "what it tells", tells(other), told{open: [9]bool{1: true}, owners: tells(made(t, tr)).owners})
	hands(t, "Next", c.Next(last), api.OK)
	hands(t, "Next", c.Next(last), api.ErrTooLarge)
}
