package shape_test

import (
	"math"
	"slices"
	"strings"
	"testing"

	"seesaw/api"
	"seesaw/event"
	"seesaw/sample"
	"seesaw/shape"
)

// numbers are those at which something might go wrong, rising.
func numbers() []int {
	return []int{math.MinInt, math.MinInt + 1, -1 << 32, -33, -7, -2, -1, 0, 1, 2, 3, 5, 6, 7, 8, 31, 32, 33, 64, 256, 1 << 32, math.MaxInt - 1, math.MaxInt}
}

// sized is a trace without events.
func sized(threads, vars, stripes int) api.Trace {
	return api.Trace{Threads: threads, Vars: vars, Stripes: stripes}
}

// sizes are some over which traces may be, among them the least and the greatest.
func sizes() []api.Trace {
	return []api.Trace{sized(0, 1, 1), sized(1, 1, 1), sized(2, 1, 1), sized(2, 3, 2), sized(3, 4, 4), sized(4, 5, 1), sized(6, 7, 3), sized(6, 32, 32), sized(6, 32, 31), sized(1, 32, 1)}
}

// said are the events of texts, with a ; between each two.
func said(t testing.TB, s string) []api.Event {
	t.Helper()
	var l []api.Event
	for text := range strings.SplitSeq(s, ";") {
		if text = strings.TrimSpace(text); text == "" {
			continue
		}
		e, wrong := event.Parse(text)
		if wrong != api.OK {
			t.Fatalf("%q is no event", text)
		}
		l = append(l, e)
	}
	return l
}

// of is a trace over these sizes with such events.
func of(t testing.TB, size api.Trace, s string) api.Trace {
	t.Helper()
	size.Events = said(t, s)
	return size
}

// made is a checker behind no events.
func made(t testing.TB, size api.Trace) *shape.Checker {
	t.Helper()
	c, e := shape.New(size.Threads, size.Vars, size.Stripes)
	if c == nil || e != api.OK {
		t.Fatalf("New of %+v: %v, %v", size, c, e)
	}
	return c
}

// behind is a checker behind a trace's events, each of which may come.
func behind(t testing.TB, tr api.Trace) *shape.Checker {
	t.Helper()
	c := made(t, tr)
	for n, e := range tr.Events {
		if wrong := c.Next(e); wrong != api.OK {
			t.Fatalf("%+v, at %d of %+v: %v", e, n, tr, wrong)
		}
	}
	return c
}

// hands tells that a call answers just this.
func hands(t testing.TB, name string, is, want api.Errno) {
	t.Helper()
	if is != want {
		t.Fatalf("%s: %v; want %v", name, is, want)
	}
}

// is tells that a call tells just this.
func is[T comparable](t testing.TB, name string, is, want T) {
	t.Helper()
	if is != want {
		t.Fatalf("%s: %v; want %v", name, is, want)
	}
}

// checks tells what Check answers.
func checks(t testing.TB, tr api.Trace, place int, want api.Errno) {
	t.Helper()
	if n, e := shape.Check(tr); n != place || e != want {
		t.Fatalf("Check of %+v: %d, %v; want %d, %v", tr, n, e, place, want)
	}
}

// told is all that a checker tells.
type told struct {
	owners, versions [34]int
	commits          [9]int
	open             [9]bool
	clock            int
}

// tells is what a checker tells, of each stripe and thread, and beyond.
func tells(c *shape.Checker) told {
	all := told{clock: c.Clock()}
	for s := range all.owners {
		all.owners[s], all.versions[s] = c.Owner(s-1), c.Version(s-1)
	}
	for thread := range all.commits {
		all.commits[thread], all.open[thread] = c.Commits(thread-1), c.Open(thread-1)
	}
	return all
}

// past is a trace of which each event came; what the chapter keeps is told anew each time, by what came.
type past api.Trace

// told is what a checker is to tell behind it.
func (p past) told() told {
	all := told{clock: p.clock()}
	for s := range all.owners {
		all.owners[s], all.versions[s] = p.owner(s-1), p.version(s-1)
	}
	for thread := range all.commits {
		where := where(p.attempt(thread - 1))
		all.commits[thread], all.open[thread] = p.commits(thread-1), where != "between" && where != "ended"
	}
	return all
}

// owner is who locked a stripe, and has not let it go.
func (p past) owner(s int) int {
	who := -1
	for _, e := range p.Events {
		if e.At == s && e.Kind == api.Lock {
			who = e.Thread
		} else if e.At == s && (e.Kind == api.Free || e.Kind == api.Undo) {
			who = -1
		}
	}
	return who
}

// version is the one by which a stripe was freed, or looked at, last.
func (p past) version(s int) int {
	version := 0
	bumped := map[int]int{}
	for _, e := range p.Events {
		switch {
		case e.Kind == api.Bump:
			bumped[e.Thread] = e.V
		case e.At == s && e.Kind == api.Look:
			version = e.V
		case e.At == s && e.Kind == api.Free:
			version = bumped[e.Thread]
		}
	}
	return version
}

// clock is what the last Begin, or Bump, has.
func (p past) clock() int {
	for _, e := range slices.Backward(p.Events) {
		if e.Kind == api.Begin || e.Kind == api.Bump {
			return e.V
		}
	}
	return 0
}

// attempts are a thread's events, each attempt for itself.
func (p past) attempts(thread int) [][]api.Event {
	var l [][]api.Event
	for _, e := range p.Events {
		if e.Thread != thread {
			continue
		}
		if e.Kind == api.Begin {
			l = append(l, nil)
		}
		l[len(l)-1] = append(l[len(l)-1], e)
	}
	return l
}

// count is how many events are of one of these Kinds.
func count(l []api.Event, kinds ...uint8) int {
	n := 0
	for _, e := range l {
		if slices.Contains(kinds, e.Kind) {
			n++
		}
	}
	return n
}

// committed tells whether these events, an attempt's, have ended a commit.
func committed(l []api.Event) bool {
	return count(l, api.Commit) == 1 && count(l, api.Free) == count(l, api.Lock)
}

// commits is how many of a thread's attempts have ended a commit.
func (p past) commits(thread int) int {
	n := 0
	for _, l := range p.attempts(thread) {
		if committed(l) {
			n++
		}
	}
	return n
}

// attempt is a thread's last attempt.
func (p past) attempt(thread int) []api.Event {
	l := make([]api.Event, 0, 30)
	for _, e := range p.Events {
		if e.Thread != thread {
			continue
		}
		if e.Kind == api.Begin {
			l = l[:0]
		}
		l = append(l, e)
	}
	return l
}

// last is the last event of this Kind, or none.
func last(l []api.Event, kind uint8) api.Event {
	for _, e := range slices.Backward(l) {
		if e.Kind == kind {
			return e
		}
	}
	return api.Event{At: -1}
}

// where is where a thread is, by its last attempt.
func where(l []api.Event) string {
	if len(l) == 0 {
		return "between"
	}
	owns := count(l, api.Lock) > count(l, api.Free, api.Undo)
	switch l[len(l)-1].Kind {
	case api.Begin, api.Load:
		return "reads"
	case api.Look:
		return "looked"
	case api.Lock:
		return "locks"
	case api.Bump, api.Check:
		return "checks"
	case api.Store:
		return "stores"
	case api.Wait:
		return "waits"
	case api.Abort, api.Undo:
		if owns {
			return "undoes"
		}
		if last(l, api.Abort).Why == api.Full {
			return "ended"
		}
	case api.Commit:
		if owns {
			return "stores"
		}
	case api.Free:
		if owns {
			return "frees"
		}
	}
	return "between"
}

// owns are the stripes that a thread owns, rising.
func (p past) owns(thread int) []int {
	var l []int
	for s := range p.Stripes {
		if p.owner(s) == thread {
			l = append(l, s)
		}
	}
	return l
}

// read are the stripes that an attempt has read, rising.
func (p past) read(l []api.Event) []int {
	var all []int
	for _, e := range l {
		if e.Kind == api.Load {
			all = append(all, e.At%p.Stripes)
		}
	}
	slices.Sort(all)
	return slices.Compact(all)
}

// left are the stripes that are left to check, rising.
func (p past) left(l []api.Event) []int {
	if last(l, api.Bump).V == l[0].V+1 {
		return nil
	}
	return p.read(l)[count(l, api.Check):]
}

// first tells whether a number is the first one of a list.
func first(l []int, n int) bool { return len(l) > 0 && l[0] == n }

// may is whether an event may come, as the chapter's table says, row by row.
func (p past) may(e api.Event) bool {
	if !event.May(e, p.Threads, p.Vars, p.Stripes) {
		return false
	}
	l := p.attempt(e.Thread)
	where := where(l)
	nobodys := p.owner(e.At) == -1
	anothers := !nobodys && p.owner(e.At) != e.Thread
	above := len(l) > 0 && p.version(e.At) > l[0].V
	rises := e.At > last(l, api.Lock).At
	seen := last(l, api.Look)
	still := seen.At >= 0 && p.owner(seen.At) == -1 && p.version(seen.At) == seen.V
	switch e.Kind {
	case api.Begin:
		return where == "between" && e.Tx == p.commits(e.Thread) && e.V >= p.clock()
	case api.Look:
		return where == "reads" && nobodys && p.version(e.At) <= e.V && e.V <= l[0].V
	case api.Load:
		return where == "looked" && e.At%p.Stripes == seen.At && still
	case api.Lock:
		return (where == "reads" || where == "locks") && rises && nobodys
	case api.Bump:
		return where == "locks" && e.V > p.clock()
	case api.Check:
		return where == "checks" && first(p.left(l), e.At) && !anothers && !above
	case api.Commit:
		return where == "reads" && e.V == 0 || where == "checks" && len(p.left(l)) == 0 && e.V == last(l, api.Bump).V
	case api.Store:
		return where == "stores" && e.At > last(l, api.Store).At && p.owner(e.At%p.Stripes) == e.Thread
	case api.Free:
		return (where == "stores" && p.stored(l, e.Thread) || where == "frees") && first(p.owns(e.Thread), e.At)
	case api.Undo:
		return where == "undoes" && first(p.owns(e.Thread), e.At)
	case api.Wait:
		return where == "reads"
	case api.Wake:
		return where == "waits" && slices.ContainsFunc(p.read(l), func(s int) bool { return p.owner(s) == -1 && p.version(s) > l[0].V })
	}
	switch e.Why { // of an Abort
	case api.Held:
		return where == "reads" && anothers
	case api.Newer:
		return where == "reads" && nobodys && above
	case api.Moved:
		return where == "looked" && e.At == seen.At && !still
	case api.Busy:
		return (where == "reads" || where == "locks") && rises && anothers
	case api.Stale:
		return where == "checks" && first(p.left(l), e.At) && (anothers || above)
	}
	return where == "locks"
}

// stored tells whether an attempt has stored to each stripe that its thread owns.
func (p past) stored(l []api.Event, thread int) bool {
	for _, s := range p.owns(thread) {
		if !slices.ContainsFunc(l, func(e api.Event) bool { return e.Kind == api.Store && e.At%p.Stripes == s }) {
			return false
		}
	}
	return true
}

// then is it with one event more.
func (p past) then(e api.Event) past {
	p.Events = append(slices.Clip(p.Events), e)
	return p
}

// near are events of all threads and Kinds that may come, or nearly.
func (p past) near() []api.Event {
	var all []api.Event
	for thread := range p.Threads + 1 {
		for kind := range api.Wake + 2 {
			all = append(all, sample.Events(api.Trace(p), thread, kind, sample.Clocks(p.Events))...)
		}
	}
	return slices.DeleteFunc(all, func(e api.Event) bool { return e.X == 7 || e.X == -1 }) // of all values two will do
}

// follows tells that a checker lets an event come just if the chapter's words do, and is then as they say; it is what came then.
func (p past) follows(t testing.TB, c *shape.Checker, e api.Event) past {
	t.Helper()
	may, was := p.may(e), tells(c)
	wrong := c.Next(e)
	if may != (wrong == api.OK) || !may && wrong != api.ErrForm {
		t.Fatalf("Next of %+v behind %+v: %v; it may come: %v", e, p, wrong, may)
	}
	if !may {
		is(t, "what it tells behind a refusal", tells(c), was)
		return p
	}
	p = p.then(e)
	is(t, "what it tells", tells(c), p.told())
	return p
}

// walks are events of a trace over these sizes, that may come as the chapter's words say.
func walks(next sample.Next, size api.Trace, most int) past {
	p := past(size)
	for e := range sample.Walk(next, size, func(e api.Event) bool { return p.may(e) }) {
		if p = p.then(e); len(p.Events) == most {
			break
		}
	}
	return p
}
