package trace

import (
	"iter"

	"seesaw/api"
	"seesaw/bytes"
	"seesaw/delta"
	"seesaw/shape"
)

// read is the trace that stands there. What is wrong first is kept by the reader: what is read then is none.
func read(r *bytes.Reader) api.Trace {
	t, many := sizes(r)
	for e := range events(r, t, many) {
		t.Events = append(t.Events, e)
	}
	return t
}

// sizes is a trace over as many of each as stands there, and how many events it has: none where a size may not be.
func sizes(r *bytes.Reader) (t api.Trace, many int) {
	size := func(n *int, least, most int) bool {
		place := r.At()
		x, e := r.Num(uint64(most))
		if e == api.OK && x < uint64(least) {
			e = r.Fail(place, api.ErrRange)
		}
		*n = int(x)
		return e == api.OK
	}
	if size(&t.Threads, 0, api.MaxThreads) && size(&t.Vars, 1, api.MaxVars) && size(&t.Stripes, 1, t.Vars) {
		most := api.MaxEvents
		if t.Threads == 0 {
			most = 0
		}
		size(&many, 0, most)
	}
	return t, many
}

// events tells so many events that stand there, over a trace's sizes, one behind the other; it stops at the first one that is wrong.
func events(r *bytes.Reader, t api.Trace, many int) iter.Seq[api.Event] {
	return func(yield func(api.Event) bool) {
		coder, _ := delta.New(t.Threads, t.Vars, t.Stripes)
		checker, _ := shape.New(t.Threads, t.Vars, t.Stripes)
		for range many {
			place := r.At()
			next, e := coder.Read(r)
			if e == api.OK && checker.Next(next) != api.OK {
				e = r.Fail(place, api.ErrForm)
			}
			if e != api.OK || !yield(next) {
				return
			}
		}
	}
}
