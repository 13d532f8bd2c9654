package sample

import (
	"iter"
	"math"
	"slices"

	"seesaw/api"
)

// Events are events of a thread and a Kind, over a trace's sizes and with these clocks: all that may be, but for other values, and some that are just beyond.
func Events(t api.Trace, thread int, kind uint8, clocks []int) []api.Event {
	l := []api.Event{{Kind: kind, Thread: thread}}
	tx := func(e *api.Event, n int) { e.Tx = n }
	at := func(e *api.Event, n int) { e.At = n }
	v := func(e *api.Event, n int) { e.V = n }
	x := func(e *api.Event, n int) { e.X = [...]int64{0, 7, -1, math.MinInt64}[n] }
	why := func(e *api.Event, n int) { e.Why = uint8(n) }
	switch kind {
	case api.Begin:
		l = each(each(l, upTo(api.MaxTx), tx), clocks, v)
	case api.Look:
		l = each(each(l, upTo(t.Stripes), at), clocks, v)
	case api.Load, api.Store:
		l = each(each(l, upTo(t.Vars), at), upTo(3), x)
	case api.Lock, api.Check, api.Free, api.Undo:
		l = each(l, upTo(t.Stripes), at)
	case api.Bump, api.Commit:
		l = each(l, clocks, v)
	case api.Abort:
		l = each(each(l, upTo(int(api.Full)+1), why), upTo(t.Stripes), at)
	}
	return l
}

// upTo are the numbers from 0 on up to this one.
func upTo(most int) []int {
	var l []int
	for n := range most + 1 {
		l = append(l, n)
	}
	return l
}

// each are all these events with each of these numbers put into them.
func each(l []api.Event, numbers []int, put func(*api.Event, int)) []api.Event {
	var all []api.Event
	for _, e := range l {
		for _, n := range numbers {
			put(&e, n)
			all = append(all, e)
		}
	}
	return all
}

// Clocks are the numbers that may count behind these events: what the clock was, and some around what it is; rising.
func Clocks(l []api.Event) []int {
	clock, all := 0, []int{0}
	for _, e := range l {
		if e.Kind == api.Begin || e.Kind == api.Bump {
			clock = e.V
			all = append(all, clock)
		}
	}
	all = append(all, clock-1, clock+1, clock+2)
	slices.Sort(all)
	return slices.Compact(all)
}

// Walk tells events that come behind a trace, one behind the other, any of those that may when each is told; till none may.
func Walk(next Next, t api.Trace, may func(api.Event) bool) iter.Seq[api.Event] {
	return func(yield func(api.Event) bool) {
		l := slices.Clone(t.Events)
		for {
			e, is := step(next, t, Clocks(l), may)
			if !is || !yield(e) {
				return
			}
			l = append(l, e)
		}
	}
}

// step is an event that may come, of any thread that has one, of any Kind.
func step(next Next, t api.Trace, clocks []int, may func(api.Event) bool) (api.Event, bool) {
	for _, thread := range mixed(next, upTo(t.Threads-1)) {
		for _, kind := range kinds(next) {
			l := slices.DeleteFunc(Events(t, thread, kind, clocks), func(e api.Event) bool { return !may(e) })
			if len(l) > 0 {
				return l[next(len(l))], true
			}
		}
	}
	return api.Event{}, false
}

// kinds are the Kinds in any row; those that end an attempt without a commit are mostly the last ones, as else few would commit.
func kinds(next Next) []uint8 {
	var first, last []uint8
	for _, n := range mixed(next, upTo(int(api.Wake))) {
		if kind := uint8(n); (kind == api.Abort || kind == api.Wait) && next(4) > 0 {
			last = append(last, kind)
		} else {
			first = append(first, kind)
		}
	}
	return append(first, last...)
}

// mixed are numbers in any row.
func mixed(next Next, l []int) []int {
	for n := range l {
		other := n + next(len(l)-n)
		l[n], l[other] = l[other], l[n]
	}
	return l
}
