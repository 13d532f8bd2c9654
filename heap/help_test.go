package heap_test

import (
	"math"
	"slices"
	"testing"

	"seesaw/api"
	"seesaw/heap"
	"seesaw/sample"
)

// numbers are those at which something might go wrong, rising.
func numbers() []int {
	return []int{math.MinInt, math.MinInt + 1, -1 << 40, -1 << 32, -33, -32, -3, -2, -1, 0, 1, 2, 3, 5, 6, 7, 31, 32, 33, 64, 256, 1 << 32, api.MaxClock - 1, api.MaxClock, api.MaxClock + 1, math.MaxInt - 1, math.MaxInt}
}

// values are those at which something might go wrong.
func values() []int64 {
	return []int64{0, 1, -1, 5, 1 << 32, -1 << 32, math.MaxInt64 - 1, math.MaxInt64, math.MinInt64, math.MinInt64 + 1}
}

// counted are the values first, first and 1, and so on.
func counted(first int64, many int) []int64 {
	l := make([]int64, many)
	for i := range l {
		l[i] = first + int64(i)
	}
	return l
}

// plain is the chapter's words a second time: which stripes have an owner, and all else that a heap has.
type plain struct {
	values       []int64
	versions     []int
	owner        map[int]int
	clock, limit int
}

// copied is one that goes its own way.
func (p plain) copied() plain {
	owner := map[int]int{}
	for s, who := range p.owner {
		owner[s] = who
	}
	p.values, p.versions, p.owner = slices.Clone(p.values), slices.Clone(p.versions), owner
	return p
}

// owners are those of all stripes, one behind the other.
func (p plain) owners() []int {
	var l []int
	for s := range p.versions {
		who, owned := p.owner[s]
		if !owned {
			who = -1
		}
		l = append(l, who)
	}
	return l
}

// same tells whether two are the same in all.
func (p plain) same(q plain) bool {
	return slices.Equal(p.values, q.values) && slices.Equal(p.versions, q.versions) && slices.Equal(p.owners(), q.owners()) && p.clock == q.clock && p.limit == q.limit
}

// call is one of a heap's calls that change something: o(wn), l(et), f(ree), b(ump), s(et).
type call struct {
	name    byte
	at      int
	who     int
	version int
	x       int64
}

// refusal is the first row of the chapter's table by which a call is refused.
func (p plain) refusal(c call) api.Errno {
	owner, owned := p.owner[c.at]
	noStripe, mine := !slices.Contains(rising(len(p.versions)), c.at), owned && owner == c.who
	rows := map[byte][]row{
		'o': {{noStripe, api.ErrNone}, {!slices.Contains(rising(6), c.who), api.ErrArg}, {owned, api.ErrTwice}},
		'l': {{noStripe, api.ErrNone}, {!mine, api.ErrState}},
		'f': {{noStripe, api.ErrNone}, {!mine, api.ErrState}, {mine && c.version < p.versions[c.at] || c.version > p.clock, api.ErrArg}},
		'b': {{p.clock == p.limit, api.ErrClock}},
		's': {{!slices.Contains(rising(len(p.values)), c.at), api.ErrNone}},
	}
	for _, one := range rows[c.name] {
		if one.is {
			return one.e
		}
	}
	return api.OK
}

// row is one of the table of errors: whether it is so, and what is told then.
type row struct {
	is bool
	e  api.Errno
}

// then is what is there behind a call, and what it answers; what was there stays.
func (p plain) then(c call) (plain, int, api.Errno) {
	p = p.copied()
	if e := p.refusal(c); e != api.OK {
		return p, 0, e
	}
	switch c.name {
	case 'o':
		p.owner[c.at] = c.who
	case 'l':
		delete(p.owner, c.at)
	case 'f':
		delete(p.owner, c.at)
		p.versions[c.at] = c.version
	case 'b':
		p.clock++
		return p, p.clock, api.OK
	case 's':
		p.values[c.at] = c.x
	}
	return p, 0, api.OK
}

// rising are all numbers below one.
func rising(below int) []int {
	var l []int
	for n := range below {
		l = append(l, n)
	}
	return l
}

// made is a heap, and what it must be.
func made(t testing.TB, init []int64, stripes, limit int) (*heap.Heap, plain) {
	t.Helper()
	h, e := heap.New(init, stripes, limit)
	if h == nil || e != api.OK {
		t.Fatalf("New of %v, %d, %d: %v, %v", init, stripes, limit, h, e)
	}
	return h, plain{values: slices.Clone(init), versions: make([]int, stripes), owner: map[int]int{}, limit: limit}
}

// answers is what a heap answers to a call.
func answers(h *heap.Heap, c call) (int, api.Errno) {
	switch c.name {
	case 'o':
		return 0, h.Own(c.at, c.who)
	case 'l':
		return 0, h.Let(c.at, c.who)
	case 'f':
		return 0, h.Free(c.at, c.who, c.version)
	case 'b':
		return h.Bump()
	}
	return 0, h.Set(c.at, c.x)
}

// does calls them one behind the other, and tells that each is answered as p says; what is there then.
func does(t testing.TB, h *heap.Heap, p plain, calls ...call) plain {
	t.Helper()
	for _, c := range calls {
		then, want, wrong := p.then(c)
		if n, e := answers(h, c); n != want || e != wrong {
			t.Fatalf("%c of %+v, with %+v: %d, %v; want %d, %v", c.name, c, p, n, e, want, wrong)
		}
		p = then
	}
	return p
}

// own, let, free, bump and set are calls.
func own(s, who int) call           { return call{name: 'o', at: s, who: who} }
func let(s, who int) call           { return call{name: 'l', at: s, who: who} }
func free(s, who, version int) call { return call{name: 'f', at: s, who: who, version: version} }
func bump() call                    { return call{name: 'b'} }
func set(v int, x int64) call       { return call{name: 's', at: v, x: x} }

// hands tells that a call answers just this.
func hands(t testing.TB, name string, is, want api.Errno) {
	t.Helper()
	if is != want {
		t.Fatalf("%s: %v; want %v", name, is, want)
	}
}

// is tells that a call tells just this.
func is[T comparable](t testing.TB, name string, is, want T) {
	t.Helper()
	if is != want {
		t.Fatalf("%s: %v; want %v", name, is, want)
	}
}

// tells tells that a call tells just this list.
func tells[T comparable](t testing.TB, name string, is, want []T) {
	t.Helper()
	if !slices.Equal(is, want) {
		t.Fatalf("%s: %v; want %v", name, is, want)
	}
}

// sizes tells that a heap has just these.
func sizes(t testing.TB, h *heap.Heap, vars, stripes, clock, limit int) {
	t.Helper()
	is(t, "Vars", h.Vars(), vars)
	is(t, "Stripes", h.Stripes(), stripes)
	is(t, "Clock", h.Clock(), clock)
	is(t, "Limit", h.Limit(), limit)
}

// holds tells that a heap is just as p says.
func holds(t testing.TB, h *heap.Heap, p plain) {
	t.Helper()
	sizes(t, h, len(p.values), len(p.versions), p.clock, p.limit)
	owners := p.owners()
	tells(t, "Values", h.Values(), p.values)
	tells(t, "Owners", h.Owners(), owners)
	tells(t, "Versions", h.Versions(), p.versions)
	for v, x := range p.values {
		is(t, "Value", h.Value(v), x)
		is(t, "Stripe", h.Stripe(v), v%len(p.versions))
	}
	for s, version := range p.versions {
		is(t, "Owner", h.Owner(s), owners[s])
		is(t, "Version", h.Version(s), version)
	}
	for _, far := range []int{-1, len(p.values), api.MaxVars} {
		is(t, "Value beyond", h.Value(far), 0)
		is(t, "Stripe beyond", h.Stripe(far), -1)
	}
	for _, far := range []int{-1, len(p.versions), api.MaxVars} {
		is(t, "Owner beyond", h.Owner(far), -1)
		is(t, "Version beyond", h.Version(far), 0)
	}
}

// refuses tells that a heap refuses each call, which it does with this, and is as it was.
func refuses(t testing.TB, h *heap.Heap, p plain, want api.Errno, calls ...call) {
	t.Helper()
	was := h.Copy()
	for _, c := range calls {
		n, e := answers(h, c)
		is(t, "a refused call's number", n, 0)
		hands(t, string(c.name), e, want)
		does(t, h, p, c)
		holds(t, h, p)
		is(t, "Same as it was", heap.Same(h, was), true)
	}
}

// some is any call, near what a heap has.
func some(next sample.Next, p plain) call {
	at := func(many int) int { return next(many+2) - next(40)/39 }
	switch next(10) {
	case 0, 1, 2:
		return own(at(len(p.versions)), next(api.MaxThreads+1)-next(30)/29)
	case 3:
		return let(near(next, p))
	case 4, 5:
		s, who := near(next, p)
		return free(s, who, p.clock+1-next(4)-next(3))
	case 6, 7:
		return bump()
	}
	return set(at(len(p.values)), int64(next(5)-2))
}

// near is a stripe, mostly with its owner.
func near(next sample.Next, p plain) (s, who int) {
	s = next(len(p.versions)+2) - next(40)/39
	if l := p.owners(); s >= 0 && s < len(l) && next(4) > 0 {
		return s, l[s]
	}
	return s, next(api.MaxThreads+2) - 1
}

// begun is a heap of any sizes.
func begun(t testing.TB, next sample.Next) (*heap.Heap, plain) {
	t.Helper()
	vars := 1 + next([]int{4, api.MaxVars}[next(2)])
	return made(t, counted(int64(next(5)-2), vars), 1+next(vars), []int{0, 3, 40, api.MaxClock}[next(4)])
}
