package attempt_test

import (
	"fmt"
	"math"
	"slices"
	"strings"
	"testing"

	"seesaw/api"
	"seesaw/attempt"
	"seesaw/code"
	"seesaw/event"
	"seesaw/heap"
	"seesaw/interp"
	"seesaw/readset"
	"seesaw/sample"
)

// Short names of what is made for tests.
var (
	lit, local, got, of = sample.Lit, sample.Local, sample.Got, sample.Of
	set, read, write    = sample.Set, sample.Read, sample.Write
	either, loop        = sample.If, sample.Loop
	retry, orElse       = sample.Retry, sample.OrElse
	leave, block        = sample.Return, sample.Block
)

// numbers are those at which something might go wrong, rising.
func numbers() []int {
	return []int{math.MinInt, math.MinInt + 1, -1 << 40, -1 << 32, -33, -32, -7, -6, -2, -1, 0, 1, 2, 3, 5, 6, 7, 31, 32, 33, 64, 256, 1 << 32, math.MaxInt - 1, math.MaxInt}
}

// past is over what an attempt is, and the steps that it did: their events, where there is none one without a Kind. What the chapter says of it is told anew each time, by these.
type past struct {
	thread        int
	tx            []api.Stmt
	vars, stripes int
	got           []int64
	steps         []api.Event
}

// machine is where its steps have led its machine.
func (p past) machine() *interp.Machine {
	m, _ := interp.New(p.tx, p.vars, p.got)
	for _, e := range p.steps {
		switch e.Kind {
		case 0:
			m.Step()
		case api.Load:
			m.Answer(e.X)
		}
	}
	return m
}

// last is its last step.
func (p past) last() api.Event {
	if len(p.steps) == 0 {
		return api.Event{}
	}
	return p.steps[len(p.steps)-1]
}

// where is where it is.
func (p past) where() uint8 { return p.follows(p.machine()) }

// follows is where it is, by where its machine is.
func (p past) follows(m *interp.Machine) uint8 {
	switch {
	case len(p.steps) == 0:
		return attempt.Fresh
	case p.last().Kind == api.Look:
		return attempt.Loads
	case p.last().Kind == api.Abort:
		return attempt.Aborted
	}
	says := map[uint8]uint8{interp.Inner: attempt.Inner, interp.Asks: attempt.Looks, interp.Ends: attempt.Ends, interp.Retries: attempt.Retries}
	return says[m.Next().Kind]
}

// over tells whether it has no next step.
func (p past) over() bool {
	return slices.Contains([]uint8{attempt.Ends, attempt.Retries, attempt.Aborted}, p.where())
}

// rv is its version.
func (p past) rv() int {
	if len(p.steps) == 0 {
		return 0
	}
	return p.steps[0].V
}

// read are the stripes that it has read, rising.
func (p past) read() []int {
	var l []int
	for _, e := range p.steps {
		if e.Kind == api.Load {
			l = append(l, e.At%p.stripes)
		}
	}
	slices.Sort(l)
	return slices.Compact(l)
}

// comes is the event of its next step on a heap; one without a Kind, where there is none.
func (p past) comes(h *heap.Heap) api.Event {
	m := p.machine()
	v := m.Next().At
	s := v % p.stripes
	owned, version := h.Owner(s) != -1, h.Version(s)
	abort := func(why uint8) api.Event { return api.Event{Kind: api.Abort, Thread: p.thread, At: s, Why: why} }
	switch where := p.follows(m); {
	case where == attempt.Fresh:
		return api.Event{Kind: api.Begin, Thread: p.thread, Tx: len(p.got), V: h.Clock()}
	case where == attempt.Looks && owned:
		return abort(api.Held)
	case where == attempt.Looks && version > p.rv():
		return abort(api.Newer)
	case where == attempt.Looks:
		return api.Event{Kind: api.Look, Thread: p.thread, At: s, V: version}
	case where == attempt.Loads && (owned || version != p.last().V):
		return abort(api.Moved)
	case where == attempt.Loads:
		return api.Event{Kind: api.Load, Thread: p.thread, At: v, X: h.Value(v)}
	}
	return api.Event{}
}

// told is all that an attempt tells, and what the set has that it tells.
type told struct {
	where        uint8
	value        int64
	rv           int
	read, writes string
	set          string
}

// told is what the attempt is to tell.
func (p past) told() told {
	m := p.machine()
	all := told{where: p.follows(m), rv: p.rv(), read: fmt.Sprint(p.read()), writes: fmt.Sprint(m.Writes())}
	if all.where == attempt.Ends {
		all.value = m.Next().X
	}
	all.set = fmt.Sprint(all.rv, p.read(), p.stripes)
	return all
}

// tells is what an attempt tells; all that it hands out is spoiled then, which must be nothing to it.
func tells(a *attempt.Attempt) told {
	l, writes, s := a.Read(), a.Writes(), a.Set()
	all := told{a.Where(), a.Value(), a.RV(), fmt.Sprint(l), fmt.Sprint(writes), shown(s)}
	for n := range l {
		l[n] += 50
	}
	clear(append(l, 51, 52))
	for n := range writes {
		writes[n] = api.Pair{At: -1, X: -1}
	}
	clear(append(writes, api.Pair{}))
	for n := range api.MaxVars {
		s.Add(n)
	}
	return all
}

// shown is what a set has: its RV, what was read, and over how many stripes it is.
func shown(s *readset.Set) string {
	stripes := 0
	for c := s.Copy(); c.Add(stripes) == api.OK; {
		stripes++
	}
	return fmt.Sprint(s.RV(), s.All(), stripes)
}

// tried is an attempt, and what the chapter says of it.
type tried struct {
	past
	a *attempt.Attempt
}

// fresh is an attempt.
func fresh(t testing.TB, thread int, tx []api.Stmt, vars, stripes int, got ...int64) *tried {
	t.Helper()
	a, e := attempt.New(thread, tx, vars, stripes, got)
	if a == nil || e != api.OK {
		t.Fatalf("New of %d, %+v, %d, %d, %v: %v, %v", thread, tx, vars, stripes, got, a, e)
	}
	x := &tried{past{thread: thread, tx: tx, vars: vars, stripes: stripes, got: got}, a}
	x.holds(t)
	return x
}

// refused tells that there is no such attempt.
func refused(t testing.TB, want api.Errno, thread int, tx []api.Stmt, vars, stripes int, got ...int64) {
	t.Helper()
	if a, e := attempt.New(thread, tx, vars, stripes, got); a != nil || e != want {
		t.Fatalf("New of %d, %+v, %d, %d, %v: %v, %v; want %v", thread, tx, vars, stripes, got, a, e, want)
	}
}

// copied is a copy, that goes its own way.
func (x *tried) copied(t testing.TB) *tried {
	t.Helper()
	c := &tried{x.past, x.a.Copy()}
	c.steps = slices.Clone(x.steps)
	c.holds(t)
	return c
}

// holds tells that an attempt tells what the chapter says.
func (x *tried) holds(t testing.TB) {
	t.Helper()
	if all, want := tells(x.a), x.told(); all != want {
		t.Fatalf("it tells, behind %+v: %+v; want %+v", x.steps, all, want)
	}
}

// refuses tells that a step on this heap is refused so, and that all is as it was then.
func (x *tried) refuses(t testing.TB, h *heap.Heap, want api.Errno) {
	t.Helper()
	was := h.Copy()
	e, there, wrong := x.a.Step(h)
	if e != (api.Event{}) || there || wrong != want {
		t.Fatalf("Step behind %+v: %+v, %v, %v; want %v", x.steps, e, there, wrong, want)
	}
	is(t, "whether the heap stays as it is", heap.Same(h, was), true)
	x.holds(t)
}

// refusals tells that it refuses no heap, and those of other sizes; and each heap, where it has no next step.
func (x *tried) refusals(t testing.TB, h *heap.Heap) {
	t.Helper()
	x.refuses(t, nil, api.ErrNil)
	want := api.ErrArg
	if x.over() {
		want = api.ErrState
		x.refuses(t, h, want)
	}
	for _, other := range others(x.vars, x.stripes) {
		x.refuses(t, other, want)
	}
}

// others are heaps of other sizes, near these, and one that has none.
func others(vars, stripes int) []*heap.Heap {
	l := []*heap.Heap{new(heap.Heap)}
	for _, size := range [][2]int{{vars + 1, stripes}, {vars - 1, stripes}, {vars, stripes + 1}, {vars, stripes - 1}, {vars + 1, stripes + 1}, {vars - 1, stripes - 1}} {
		if h, e := heap.New(make([]int64, size[0]), size[1], 9); e == api.OK && size != [2]int{vars, stripes} {
			l = append(l, h)
		}
	}
	return l
}

// step tells that its next step on a heap is what the chapter says: the event, or one without a Kind where there is none.
func (x *tried) step(t testing.TB, h *heap.Heap) api.Event {
	t.Helper()
	want, was := x.comes(h), h.Copy()
	e, there, wrong := x.a.Step(h)
	if e != want || there != (want.Kind != 0) || wrong != api.OK {
		t.Fatalf("Step behind %+v of %+v: %+v, %v, %v; want %+v", x.steps, x.past, e, there, wrong, want)
	}
	is(t, "whether the heap stays as it is", heap.Same(h, was), true)
	x.steps = append(x.steps, e)
	x.holds(t)
	return e
}

// row tells that its next steps on a heap have just these events, as texts with a ; between each two; "-" is a step without one.
func (x *tried) row(t testing.TB, h *heap.Heap, texts string) {
	t.Helper()
	for want := range strings.SplitSeq(texts, "; ") {
		text := "-"
		if e := x.step(t, h); e.Kind != 0 {
			text, _ = event.Show(e)
		}
		is(t, "an event", text, want)
	}
}

// ends tells that it is at this place, which is its end, with just this.
func (x *tried) ends(t testing.TB, where uint8, value int64, read []int, writes ...api.Pair) {
	t.Helper()
	is(t, "Where", x.a.Where(), where)
	is(t, "Value", x.a.Value(), value)
	list(t, "Read", x.a.Read(), read)
	list(t, "Writes", x.a.Writes(), writes)
	is(t, "whether it is over", x.over(), true)
}

// finish goes on to its end on a heap, with a world between each two steps; it is how many steps it has done then.
func (x *tried) finish(t testing.TB, h *heap.Heap, between func()) int {
	t.Helper()
	for !x.over() {
		between()
		x.step(t, h)
	}
	return len(x.steps)
}

// nothing is what happens between the steps where nothing does.
func nothing() {}

// events are those of its steps that have one.
func (p past) events() []api.Event {
	return slices.DeleteFunc(slices.Clone(p.steps), func(e api.Event) bool { return e.Kind == 0 })
}

// enough tells that attempts were at each place so often at least.
func enough(t testing.TB, places map[uint8]int, least int) {
	t.Helper()
	for where := attempt.Fresh; where <= attempt.Aborted; where++ {
		if places[where] < least {
			t.Fatal("too few:", places)
		}
	}
}

// is tells that a call tells just this.
func is[T comparable](t testing.TB, name string, is, want T) {
	t.Helper()
	if is != want {
		t.Fatalf("%s: %+v; want %+v", name, is, want)
	}
}

// list tells that a call tells just this list.
func list[T comparable](t testing.TB, name string, is, want []T) {
	t.Helper()
	if !slices.Equal(is, want) {
		t.Fatalf("%s: %v; want %v", name, is, want)
	}
}

// hands tells that a call answers just this.
func hands(t testing.TB, name string, is, want api.Errno) {
	t.Helper()
	if is != want {
		t.Fatalf("%s: %v; want %v", name, is, want)
	}
}

// pair is a variable with a value.
func pair(at int, x int64) api.Pair { return api.Pair{At: at, X: x} }

// heaped is a heap with these values, whose clock was let go on so often.
func heaped(t testing.TB, stripes, clock int, values ...int64) *heap.Heap {
	t.Helper()
	h, e := heap.New(values, stripes, api.MaxClock)
	if h == nil || e != api.OK {
		t.Fatalf("no heap of %d, %v: %v", stripes, values, e)
	}
	for range clock {
		h.Bump()
	}
	return h
}

// tens are so many values: 10, 20, and so on.
func tens(many int) []int64 {
	var l []int64
	for n := range many {
		l = append(l, int64(10*n+10))
	}
	return l
}

// own lets a thread own stripes.
func own(t testing.TB, h *heap.Heap, who int, stripes ...int) {
	t.Helper()
	for _, s := range stripes {
		hands(t, "Own", h.Own(s, who), api.OK)
	}
}

// free lets the clock go on, and stripes go, with the version that it is then.
func free(t testing.TB, h *heap.Heap, stripes ...int) {
	t.Helper()
	wv, e := h.Bump()
	hands(t, "Bump", e, api.OK)
	for _, s := range stripes {
		hands(t, "Free", h.Free(s, h.Owner(s), wv), api.OK)
	}
}

// commit lets a thread commit that it has written a variable.
func commit(t testing.TB, h *heap.Heap, who, v int, x int64) {
	t.Helper()
	own(t, h, who, h.Stripe(v))
	hands(t, "Set", h.Set(v, x), api.OK)
	free(t, h, h.Stripe(v))
}

// reading is a transaction that may be the n-th one, and reads a lot ahead of what else it does.
func reading(next sample.Next, n int) []api.Stmt {
	var l []api.Stmt
	for range 1 + next(4) {
		l = append(l, read(next(3), sample.Expr(next, n, 2)))
	}
	if next(2) == 0 {
		l = block(loop(lit(int64(next(5))), l...))
	}
	tx := sample.Busy(next, n)
	if all := append(l, tx...); code.May(all, n) {
		return all
	}
	return tx
}

// some is any attempt: of a transaction that reads a lot, or of any one.
func some(t testing.TB, next sample.Next) *tried {
	t.Helper()
	n, vars := next(api.MaxTx), 1+next([]int{4, 4, api.MaxVars}[next(3)])
	tx := sample.Tx(next, n)
	if next(6) > 0 {
		tx = reading(next, n)
	}
	var values []int64
	for range n {
		values = append(values, int64(next(9)-4))
	}
	return fresh(t, next(api.MaxThreads), tx, vars, 1+next(vars), values...)
}

// heap is one over which it is, with any values, and stripes of any versions.
func (x *tried) heap(t testing.TB, next sample.Next) *heap.Heap {
	t.Helper()
	var values []int64
	for range x.vars {
		values = append(values, int64(next(9)-4))
	}
	h := heaped(t, x.stripes, next(3), values...)
	for range next(5) {
		commit(t, h, next(api.MaxThreads), next(x.vars), int64(next(9)-4))
	}
	return h
}

// world is who owns stripes of a heap, and commits to it, while others look.
type world struct {
	h     *heap.Heap
	next  sample.Next
	dirty [api.MaxVars]bool // stripes to which was stored, so that they can't be let go without a version
}

// goes lets something happen, or nothing: versions rise above the clock that was, and what is stored is of a stripe that is owned.
func (w *world) goes(t testing.TB) {
	t.Helper()
	s := w.next(w.h.Stripes())
	switch owner, n := w.h.Owner(s), w.next(10); {
	case n == 0:
		w.h.Bump()
	case owner == -1 && n < 4:
		own(t, w.h, w.next(api.MaxThreads), s)
	case owner == -1: // nothing
	case n < 5:
		same := (w.h.Vars()-1-s)/w.h.Stripes() + 1 // so many variables belong to it
		hands(t, "Set", w.h.Set(s+w.h.Stripes()*w.next(same), int64(w.next(9)-4)), api.OK)
		w.dirty[s] = true
	case n < 7 && !w.dirty[s]:
		hands(t, "Let", w.h.Let(s, owner), api.OK)
	default:
		free(t, w.h, s)
		w.dirty[s] = false
	}
}

// turns lets something happen so often at most.
func (w *world) turns(t testing.TB, most int) {
	t.Helper()
	for range w.next(most + 1) {
		w.goes(t)
	}
}
