package attempt

import (
	"seesaw/api"
	"seesaw/heap"
	"seesaw/interp"
	"seesaw/readset"
)

// nobody is the owner of a stripe that has none.
const nobody = -1

// step does an attempt's next step on a heap: the event, and whether there is one.
type step func(a *Attempt, h *heap.Heap) (api.Event, bool)

// next is what is done where an attempt is; none where it Ends, Retries, or is Aborted.
func next(where uint8) step {
	places := [Aborted + 1]step{
		Fresh: (*Attempt).begin,
		Inner: (*Attempt).inner,
		Looks: (*Attempt).look,
		Loads: (*Attempt).load,
	}
	return places[where]
}

// begin is where it is Fresh.
func (a *Attempt) begin(h *heap.Heap) (api.Event, bool) {
	a.set, _ = readset.New(h.Clock(), a.over.stripes) // a heap's clock is an RV always
	a.follow()
	return api.Event{Kind: api.Begin, Thread: a.thread, Tx: a.tx, V: h.Clock()}, true
}

// inner is where it is Inner.
func (a *Attempt) inner(*heap.Heap) (api.Event, bool) {
	a.machine.Step()
	a.follow()
	return api.Event{}, false
}

// look is where it Looks.
func (a *Attempt) look(h *heap.Heap) (api.Event, bool) {
	s := h.Stripe(a.machine.Next().At)
	version := h.Version(s)
	if why := a.set.Look(h.Owner(s), version); why != 0 {
		return a.abort(why, s)
	}
	a.where, a.seen = Loads, version
	return api.Event{Kind: api.Look, Thread: a.thread, At: s, V: version}, true
}

// load is where it Loads.
func (a *Attempt) load(h *heap.Heap) (api.Event, bool) {
	v := a.machine.Next().At
	s := h.Stripe(v)
	if h.Owner(s) != nobody || h.Version(s) != a.seen {
		return a.abort(api.Moved, s)
	}
	x := h.Value(v)
	a.machine.Answer(x)
	a.set.Add(s)
	a.follow()
	return api.Event{Kind: api.Load, Thread: a.thread, At: v, X: x}, true
}

// abort has it be Aborted, at a stripe.
func (a *Attempt) abort(why uint8, s int) (api.Event, bool) {
	a.where = Aborted
	return api.Event{Kind: api.Abort, Thread: a.thread, At: s, Why: why}, true
}

// follow has it be where its machine says.
func (a *Attempt) follow() {
	places := [...]uint8{interp.Inner: Inner, interp.Asks: Looks, interp.Ends: Ends, interp.Retries: Retries}
	a.where = places[a.machine.Next().Kind]
}
