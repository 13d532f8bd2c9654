package attempt_test

import (
	"slices"
	"testing"

	"seesaw/api"
	"seesaw/attempt"
	"seesaw/code"
	"seesaw/event"
	"seesaw/heap"
	"seesaw/interp"
	"seesaw/sample"
	"seesaw/shape"
)

// plain is a transaction's machine at its end, where each variable that it asks for has its value of this list.
func plain(t testing.TB, p past, values []int64) *interp.Machine {
	t.Helper()
	m, e := interp.New(p.tx, p.vars, p.got)
	hands(t, "a machine", e, api.OK)
	for {
		switch ask := m.Next(); ask.Kind {
		case interp.Inner:
			hands(t, "Step", m.Step(), api.OK)
		case interp.Asks:
			hands(t, "Answer", m.Answer(values[ask.At]), api.OK)
		default:
			return m
		}
	}
}

// asPlain tells that an attempt is at its end with what its transaction comes to on plain memory.
func asPlain(t testing.TB, x *tried, values []int64) {
	t.Helper()
	m := plain(t, x.past, values)
	ask := m.Next()
	where, value := attempt.Ends, ask.X
	if ask.Kind == interp.Retries {
		where = attempt.Retries
	}
	x.ends(t, where, value, x.past.read(), m.Writes()...)
}

// most is how many steps an attempt does at most.
func most(tx []api.Stmt) int { return 2*code.Cost(tx) + 1 }

// P16.3: on a heap that stays as it is, whose stripes nobody owns, each attempt ends, or retries, as its transaction does on plain memory; what it read is what the heap has.
func TestP16_3(t *testing.T) {
	places, loads := map[uint8]int{}, 0
	for seed := range uint64(1000) {
		next := sample.Noise(seed + 3000)
		x := some(t, next)
		h := x.heap(t, next)
		for range next(3) { // versions that are the clock at most: of other stripes, too
			commit(t, h, 5, next(x.vars), 3)
		}
		x.finish(t, h, nothing)
		asPlain(t, x, h.Values())
		for _, e := range x.steps {
			if e.Kind == api.Load {
				is(t, "what was loaded", e.X, h.Value(e.At))
				loads++
			}
		}
		is(t, "RV", x.a.RV(), h.Clock())
		places[x.a.Where()]++
	}
	if places[attempt.Ends] < 300 || places[attempt.Retries] < 30 || len(places) != 2 || loads < 1000 {
		t.Fatal("too few, or others:", places, loads)
	}
}

// P16.3: also at the ends of what a heap may be: at its limit, of a limit of 0, of as many variables as may be.
func TestP16_3Ends(t *testing.T) {
	for _, limit := range []int{0, 1, 3, api.MaxClock} {
		for _, size := range [][2]int{{1, 1}, {api.MaxVars, 1}, {api.MaxVars, 31}, {api.MaxVars, api.MaxVars}} {
			h, e := heap.New(tens(size[0]), size[1], limit)
			hands(t, "a heap", e, api.OK)
			for e == api.OK && h.Clock() < 9 {
				_, e = h.Bump()
			}
			own(t, h, 1, 0)
			hands(t, "Free", h.Free(0, 1, h.Clock()), api.OK)
			x := fresh(t, 5, block(loop(lit(8), read(1, local(2)), set(2, of(api.Sub, local(2), lit(5))), set(3, of(api.Add, local(3), local(1)))), leave(local(3))), size[0], size[1])
			x.finish(t, h, nothing)
			asPlain(t, x, h.Values())
		}
	}
}

// P16.4: whatever happens between, by versions that rise above the clock, and whoever owns stripes: each value that is loaded is one that the variable had when RV was taken; what ends, or retries, has done so by these alone.
func TestP16_4(t *testing.T) {
	changed, over := 0, map[uint8]int{}
	for seed := range uint64(4000) {
		next := sample.Noise(seed + 4000)
		x := some(t, next)
		w := &world{h: x.heap(t, next), next: next}
		w.turns(t, 6)
		values := w.h.Values() // at the Begin, ahead of which nothing more happens
		x.step(t, w.h)
		for n := 0; !x.over(); n++ {
			if n%4 == 3 || seed%3 == 0 {
				w.turns(t, 3)
			}
			if e := x.step(t, w.h); e.Kind == api.Load {
				is(t, "what was loaded", e.X, values[e.At])
				if !slices.Equal(w.h.Values(), values) {
					changed++
				}
			}
		}
		if over[x.a.Where()]++; x.a.Where() != attempt.Aborted {
			asPlain(t, x, values)
		}
	}
	if changed < 300 || len(over) != 3 || over[attempt.Ends] < 300 || over[attempt.Aborted] < 300 {
		t.Fatal("too few:", changed, over)
	}
}

// P16.4: each way in which a commit may fall between Begin, Look and Load, by hand: the value that was is loaded, or none.
func TestP16_4Places(t *testing.T) {
	for owns := range 4 {
		for stores := owns; stores < 4; stores++ {
			for frees := stores; frees < 4; frees++ {
				h := heaped(t, 2, 1, 10, 20)
				x := fresh(t, 0, reads(), 2, 2)
				for step := range 3 {
					if owns == step {
						own(t, h, 1, 0)
					}
					if stores == step && step > 0 { // ahead of the Begin it would be there when RV is taken
						hands(t, "Set", h.Set(0, 99), api.OK)
					}
					if frees == step && step > 0 {
						free(t, h, 0)
					}
					if !x.over() {
						if e := x.step(t, h); e.Kind == api.Load {
							is(t, "what was loaded", e.X, 10)
						}
					}
				}
				want := attempt.Aborted
				if owns == 3 {
					want = attempt.Ends
				}
				is(t, "Where", x.a.Where(), want)
			}
		}
	}
}

// P16.5: no attempt does more steps than twice its transaction's cost, and one, whatever happens.
func TestP16_5(t *testing.T) {
	just := 0
	for seed := range uint64(1500) {
		next := sample.Noise(seed + 5000)
		x := some(t, next)
		w := &world{h: x.heap(t, next), next: next}
		n := x.finish(t, w.h, func() {
			if seed%2 == 0 {
				w.turns(t, 1)
			}
		})
		if n > most(x.tx) {
			t.Fatalf("%d steps of %+v, which costs %d", n, x.tx, code.Cost(x.tx))
		}
		if n == most(x.tx) {
			just++
		}
	}
	if just < 5 {
		t.Fatal("so few did as many:", just)
	}
}

// lookers is a transaction of just this cost, of few statements, that reads as often as it may.
func lookers(cost int) []api.Stmt {
	if cost <= api.MaxTurns {
		return slices.Repeat(block(read(1, local(1))), cost)
	}
	return append(lookers((cost-1)%api.MaxTurns), loop(lit(9), lookers((cost-1)/api.MaxTurns)...))
}

// P16.5: of a transaction of Reads alone it is just so many; up to the greatest cost there are as few as were told, with what is Inner between.
func TestP16_5Most(t *testing.T) {
	h := heaped(t, 2, 0, 10, 21, 32)
	for many := range api.MaxStmts + 1 {
		x := fresh(t, 0, slices.Repeat(block(read(1, local(1))), many), 3, 2)
		is(t, "how many steps", x.finish(t, h, nothing), 2*many+1)
	}
	for _, cost := range []int{9, 100, 999, api.MaxCost - 1, api.MaxCost} {
		tx := lookers(cost)
		is(t, "the cost", code.Cost(tx), cost)
		a, e := attempt.New(0, tx, 3, 2, nil)
		hands(t, "New", e, api.OK)
		steps := 0
		for ; a.Where() != attempt.Ends; steps++ {
			_, _, e := a.Step(h)
			hands(t, "Step", e, api.OK)
		}
		if steps > most(tx) || steps < cost*7/4 {
			t.Fatalf("%d steps at a cost of %d", steps, cost)
		}
	}
}

// inRow tells that events are one Begin, then Looks, each but the last one followed by a Load of a variable of that stripe, and at the end perhaps an Abort.
func inRow(t testing.TB, x *tried) {
	t.Helper()
	l := x.events()
	is(t, "the first event", l[0].Kind, api.Begin)
	for n, e := range l {
		is(t, "an event's thread", e.Thread, x.thread)
		is(t, "whether it may be", event.May(e, api.MaxThreads, x.vars, x.stripes), true)
		last := n == len(l)-1
		switch e.Kind {
		case api.Begin:
			is(t, "a Begin's place", n, 0)
		case api.Look:
			if !last && l[n+1].Kind == api.Load {
				is(t, "the stripe of a Load", l[n+1].At%x.stripes, e.At)
			} else if !last {
				is(t, "what follows a Look", l[n+1].Kind, api.Abort)
				is(t, "why", l[n+1].Why, api.Moved)
			}
		case api.Load:
			is(t, "what is ahead of a Load", l[n-1].Kind, api.Look)
		case api.Abort:
			is(t, "whether an Abort is the last one", last, true)
			is(t, "whether it was Moved, just behind a Look", e.Why == api.Moved, l[n-1].Kind == api.Look)
		default:
			t.Fatalf("%+v of an attempt", e)
		}
	}
}

// P16.6: its events are in that row at each place, whatever happens.
func TestP16_6(t *testing.T) {
	kinds := map[uint8]int{}
	for seed := range uint64(1500) {
		next := sample.Noise(seed + 6000)
		x := some(t, next)
		w := &world{h: x.heap(t, next), next: next}
		for !x.over() {
			w.turns(t, int(seed%3))
			x.step(t, w.h)
			inRow(t, x)
		}
		kinds[x.events()[len(x.events())-1].Kind]++
	}
	if kinds[api.Begin] < 50 || kinds[api.Load] < 50 || kinds[api.Abort] < 50 {
		t.Fatal("too few:", kinds)
	}
}

// committer is a thread that commits to a heap what it writes, again and again, as chapter 17 says.
type committer struct {
	who, commits int
	left         []func() api.Event // the steps of its commit that are left
}

// step is its next step's event, if it has one still: a thread has MaxTx transactions at most.
func (c *committer) step(t testing.TB, next sample.Next, h *heap.Heap) (api.Event, bool) {
	t.Helper()
	if len(c.left) == 0 && c.commits < api.MaxTx {
		c.begin(t, next, h)
	}
	if len(c.left) == 0 {
		return api.Event{}, false
	}
	e := c.left[0]()
	c.left = c.left[1:]
	e.Thread = c.who
	return e, true
}

// begin has all steps of a commit be left.
func (c *committer) begin(t testing.TB, next sample.Next, h *heap.Heap) {
	does := func(e api.Event, how func() api.Errno) {
		c.left = append(c.left, func() api.Event {
			hands(t, "a step of a commit", how(), api.OK)
			return e
		})
	}
	tx, wv := c.commits, 0
	c.commits++
	c.left = append(c.left, func() api.Event { return api.Event{Kind: api.Begin, Tx: tx, V: h.Clock()} })
	stripes, writes := map[int]bool{}, []int{}
	for v := range h.Vars() {
		if next(3) == 0 || v == h.Vars()-1 && len(writes) == 0 {
			stripes[h.Stripe(v)], writes = true, append(writes, v)
		}
	}
	each := func(kind uint8, how func(s int) api.Errno) {
		for s := range h.Stripes() {
			if stripes[s] {
				does(api.Event{Kind: kind, At: s}, func() api.Errno { return how(s) })
			}
		}
	}
	each(api.Lock, func(s int) api.Errno { return h.Own(s, c.who) })
	c.left = append(c.left, func() api.Event {
		wv, _ = h.Bump()
		return api.Event{Kind: api.Bump, V: wv}
	}, func() api.Event { return api.Event{Kind: api.Commit, V: wv} })
	for _, v := range writes {
		x := int64(next(99))
		does(api.Event{Kind: api.Store, At: v, X: x}, func() api.Errno { return h.Set(v, x) })
	}
	each(api.Free, func(s int) api.Errno { return h.Free(s, c.who, wv) })
}

// P16.6, P16.4: attempts of several threads, and one that commits between their steps: what comes is a well-formed trace, whatever is picked next.
func TestP16_6Trace(t *testing.T) {
	kinds, why := map[uint8]int{}, map[uint8]int{}
	for seed := range uint64(300) {
		next := sample.Noise(seed + 6600)
		vars := 1 + next(6)
		tr := api.Trace{Threads: 4, Vars: vars, Stripes: 1 + next(vars)}
		h := heaped(t, tr.Stripes, 0, tens(vars)...)
		var l []*tried
		for thread := range 3 {
			l = append(l, fresh(t, thread, reading(next, 0), vars, tr.Stripes))
		}
		c := &committer{who: 3}
		for range 150 {
			if x := l[next(3)]; next(2) == 0 {
				if x.over() { // and is begun anew, if it aborted
					if x.a.Where() == attempt.Aborted {
						*x = *fresh(t, x.thread, x.tx, vars, tr.Stripes)
					}
				} else if e := x.step(t, h); e.Kind != 0 {
					tr.Events = append(tr.Events, e)
				}
			} else if e, is := c.step(t, next, h); is {
				tr.Events = append(tr.Events, e)
			}
		}
		if n, e := shape.Check(tr); e != api.OK {
			t.Fatalf("%v at %d of %+v", e, n, tr)
		}
		for _, e := range tr.Events {
			kinds[e.Kind]++
			why[e.Why]++
		}
	}
	if kinds[api.Load] < 1000 || kinds[api.Free] < 500 || why[api.Held] < 50 || why[api.Newer] < 50 || why[api.Moved] < 50 {
		t.Fatal("too few:", kinds, why)
	}
}

// P16.1 to P16.6, R1: whatever sizes, transactions and heaps fuzzing comes to: what is made, and each step of it, is as the chapter's words say.
func FuzzAttempt(f *testing.F) {
	f.Add("\x01\x02\x03\x04\x05\x06\x07\x08")
	f.Add("\x01\x04\x02\x00\x01\x02\x01\x00\x00\x01\x05\x02\x03\x09\x08\x07\x06\x05\x04\x03\x02\x01")
	f.Fuzz(func(t *testing.T, s string) {
		next := sample.Bytes(s[:min(len(s), 300)])
		thread, vars, stripes, n := next(8)-1, next(8), next(6), next(8)
		tx, values := sample.Stmts(next, min(n, 5)+next(4)/3, 3, 3), make([]int64, n)
		if vars == 7 {
			vars = api.MaxVars
		}
		a, e := attempt.New(thread, tx, vars, stripes, values)
		switch {
		case thread < 0 || thread > 5 || vars < 1 || stripes < 1 || stripes > vars:
			refused(t, api.ErrArg, thread, tx, vars, stripes, values...)
			return
		case !code.May(tx, n):
			refused(t, api.ErrForm, thread, tx, vars, stripes, values...)
			return
		}
		hands(t, "New", e, api.OK)
		x := &tried{past{thread: thread, tx: tx, vars: vars, stripes: stripes, got: values}, a}
		w := &world{h: heaped(t, stripes, next(3), make([]int64, vars)...), next: next}
		for n := 0; !x.over() && n < 200; n++ {
			if w.goes(t); n%16 == 0 {
				x.refusals(t, w.h)
			}
			x.step(t, w.h)
			inRow(t, x)
		}
		if len(x.steps) > most(tx) {
			t.Fatalf("%d steps of %+v", len(x.steps), tx)
		}
	})
}
