package sample

import (
	"slices"

	"seesaw/api"
	"seesaw/shape"
)

// Formed is a well-formed trace over these sizes, without events yet, that gets so many at most, any of those that may come.
func Formed(next Next, t api.Trace, most int) api.Trace {
	c, _ := shape.New(t.Threads, t.Vars, t.Stripes)
	for e := range Walk(next, t, func(e api.Event) bool { return c.Copy().Next(e) == api.OK }) {
		c.Next(e)
		if t.Events = append(t.Events, e); len(t.Events) == most {
			break
		}
	}
	return t
}

// Bent are traces that are nearly this one: an event is left out, comes twice, is another one, or comes ahead of the one ahead of it.
func Bent(next Next, t api.Trace) []api.Trace {
	var l []api.Trace
	other := func(events []api.Event) {
		t.Events = events
		l = append(l, t)
	}
	events := t.Events
	for n, e := range events {
		other(slices.Delete(slices.Clone(events), n, n+1))
		other(slices.Insert(slices.Clone(events), n, e))
		bad := slices.Clone(events)
		all := Events(t, e.Thread, e.Kind, Clocks(events))
		bad[n] = all[next(len(all))]
		other(bad)
		if n > 0 {
			bad := slices.Clone(events)
			bad[n-1], bad[n] = bad[n], bad[n-1]
			other(bad)
		}
	}
	return l
}
