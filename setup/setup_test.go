package setup_test

import (
	"cmp"
	"fmt"
	"math"
	"reflect"
	"slices"
	"testing"

	"seesaw/api"
	"seesaw/sample"
	"seesaw/setup"
)

// P6.1, P6.2: the chapter's examples.
func TestP6_1Examples(t *testing.T) {
	s := api.Setup{Stripes: 1, Clock: 0, Tries: 1, Init: []int64{5}}
	allowed(t, s)
	s.Stripes = 2
	refused(t, s)
	stripeIs(t, 5, 3, 2)
	variablesAre(t, 2, 3, 9, 2, 5, 8)
}

// P6.1: how many variables there are, and stripes of them, just within and just beyond, and far beyond.
func TestP6_1Vars(t *testing.T) {
	for _, init := range [][]int64{nil, {}} {
		for _, stripes := range []int{-1, 0, 1, 2} {
			refused(t, api.Setup{Stripes: stripes, Clock: 5, Tries: 1, Init: init})
		}
	}
	for vars := 1; vars <= api.MaxVars+3; vars++ {
		s := of(behind(2, retries(2)))
		s.Init = make([]int64, vars)
		for s.Stripes = -3; s.Stripes <= vars+3; s.Stripes++ {
			checked(t, s, vars <= api.MaxVars && s.Stripes >= 1 && s.Stripes <= vars)
		}
		for _, s.Stripes = range []int{math.MinInt, math.MaxInt, 1 << 32, 1<<32 + 1, 1<<8 + 1, -1 << 32} {
			refused(t, s)
		}
	}
	for _, vars := range []int{2 * api.MaxVars, 1 << 8, 1<<8 + 1, 1<<16 + 1} {
		for _, stripes := range []int{1, 2, vars} {
			refused(t, api.Setup{Stripes: stripes, Clock: 5, Tries: 1, Init: make([]int64, vars)})
		}
	}
}

// P6.1: the variables begin with whatever value.
func TestP6_1Init(t *testing.T) {
	for _, x := range []int64{math.MinInt64, math.MinInt64 + 1, -1 << 40, -1, 0, 1, 33, 1<<40 + 1, math.MaxInt64} {
		for v := range 3 {
			s := of(nil)
			s.Init = make([]int64, 3)
			s.Init[v] = x
			allowed(t, s)
		}
	}
}

// clocks and tries are the numbers just within and just beyond, and far beyond, and whether they may be.
func clocks() map[int]bool {
	const most = api.MaxClock
	return map[int]bool{math.MinInt: false, -1 << 32: false, -2: false, -1: false, 0: true, 1: true, 1 << 32: true, most - 1: true, most: true, most + 1: false, most + 2: false, 2 * most: false, math.MaxInt: false}
}
func tries() map[int]bool {
	const most = api.MaxTries
	return map[int]bool{math.MinInt: false, -1 << 32: false, -1: false, 0: false, 1: true, 2: true, most - 1: true, most: true, most + 1: false, 2 * most: false, 1<<32 + 1: false, math.MaxInt: false}
}

// P6.1: the clock's limit, and the attempts, each with what may be of the others and what not.
func TestP6_1ClockTries(t *testing.T) {
	for clock, is := range clocks() {
		for tries, may := range tries() {
			for stripes := range 4 {
				for _, l := range [][]thread{nil, {}, {{retries(1)}}, {{{{}}}}, make([]thread, 7)} {
					s := api.Setup{Stripes: stripes, Clock: clock, Tries: tries, Init: []int64{1, 2}, Threads: l}
					checked(t, s, is && may && (stripes == 1 || stripes == 2) && len(l) < 7 && (len(l) < 1 || len(l[0][0][0].Body) == 0 && l[0][0][0].Kind != 0))
				}
			}
		}
	}
}

// P6.1: threads, none to one too many, and far too many, with transactions or without.
func TestP6_1Threads(t *testing.T) {
	for _, many := range []int{0, 1, 2, api.MaxThreads - 1, api.MaxThreads, api.MaxThreads + 1, api.MaxThreads + 2, 1 << 8, 1<<8 + 1, 1 << 16} {
		for _, l := range []thread{nil, {}, {nil}, {{}}, {retries(1)}, behind(api.MaxTx-1, costing(api.MaxCost))} {
			checked(t, of(slices.Repeat([]thread{l}, many)...), many <= api.MaxThreads)
		}
	}
}

// P6.1: transactions of a thread, none to one too many, and far too many, whichever thread it is.
func TestP6_1Transactions(t *testing.T) {
	for _, many := range []int{0, 1, 2, api.MaxTx - 1, api.MaxTx, api.MaxTx + 1, api.MaxTx + 2, 1 << 8, 1<<8 + 1, 1 << 16} {
		for threads := 1; threads <= api.MaxThreads; threads++ {
			for at := range threads {
				s := of(make([]thread, threads)...)
				for _, x := range []tx{nil, {}, retries(1)} {
					s.Threads[at] = slices.Repeat(thread{x}, many)
					checked(t, s, many <= api.MaxTx)
				}
			}
		}
	}
}

// P6.1: a transaction that may not be, alone, or as the first, a middle or the last one of any thread.
func TestP6_1May(t *testing.T) {
	for _, b := range bad() {
		for threads := 1; threads <= api.MaxThreads; threads++ {
			for many := 1; many <= api.MaxTx; many++ {
				var s api.Setup
				for range threads {
					s.Threads = append(s.Threads, slices.Repeat(thread{retries(2)}, many))
				}
				s = of(s.Threads...)
				for _, l := range s.Threads {
					for n := range l {
						allowed(t, s)
						l[n] = b
						refused(t, s)
						l[n] = retries(2)
					}
				}
			}
		}
	}
}

// P6.1: a transaction asks what an earlier one of its own thread returned, not itself, nor a later one; others' threads are as nothing.
func TestP6_1Got(t *testing.T) {
	for n := range api.MaxTx {
		for asked := range api.MaxTx + 1 {
			asks := block(set(1, sample.Of(api.Add, lit(1), got(int64(asked)))))
			for _, more := range []int{0, api.MaxTx - 1 - n} {
				l := append(behind(n, asks), empty(more)...)
				for _, other := range []thread{nil, empty(1), empty(api.MaxTx)} {
					checked(t, of(l), asked < n)
					checked(t, of(l, other), asked < n)
					checked(t, of(other, l), asked < n)
					checked(t, of(other, other, l, other), asked < n)
				}
			}
		}
	}
}

// P6.1: Check ends of what is far too much, or goes round in itself.
func TestP6_1Endless(t *testing.T) {
	round := block(orElse(nil, nil))
	round[0].Body = round
	refused(t, of(thread{round}))
	for _, s := range []api.Setup{of(slices.Repeat([]thread{{retries(1)}}, 1<<20)...), of(slices.Repeat(thread{retries(1)}, 1<<20)), of(thread{retries(1 << 20)})} {
		refused(t, s)
	}
}

// P6.1: the greatest cost of none, and of one transaction, which is told as MaxCost and 1 if it is above that.
func TestP6_1Cost(t *testing.T) {
	for _, s := range []api.Setup{{}, of(), of(nil), of(thread{}, nil), of(thread{nil}), of(thread{{}, nil}, thread{{}})} {
		costs(t, s, 0)
	}
	for _, cost := range []int{1, 2, 9, 100, api.MaxCost - 1, api.MaxCost, api.MaxCost + 1, api.MaxCost + 2, 1 << 16, 1 << 40, math.MaxInt} {
		want := min(cost, api.MaxCost+1)
		costs(t, of(thread{costing(cost)}), want)
		costs(t, of(behind(5, costing(cost)), nil), want)
		costs(t, of(nil, thread{costing(cost), retries(1)}), want)
		costs(t, api.Setup{Clock: -1, Threads: []thread{empty(9), {costing(cost), retries(1)}}}, want)
	}
}

// P6.1: the greatest cost of several, wherever it stands: of setups that may not be, too.
func TestP6_1CostOfSeveral(t *testing.T) {
	for threads := 1; threads <= api.MaxThreads+2; threads++ {
		for many := 1; many <= api.MaxTx+2; many++ {
			s := of()
			for i := range threads {
				var l thread
				for n := range many {
					l = append(l, retries(1+(3*i+5*n)%7))
				}
				s.Threads = append(s.Threads, l)
			}
			for _, l := range s.Threads {
				for n, was := range l {
					for _, cost := range []int{8, 20, api.MaxCost, api.MaxCost + 1} {
						l[n] = costing(cost)
						costs(t, s, cost)
					}
					l[n] = was
				}
			}
		}
	}
	for _, s := range append(odd(), mays()...) {
		costs(t, s, costliest(s))
	}
	costs(t, of(thread{{{Kind: 77}, {}, {Kind: api.Set, Body: retries(100)}}}), 3)
}

// P6.1: one thing that is another one, at any level, and it is not the same; and a copy has nothing of it.
func TestP6_1Unlike(t *testing.T) {
	a := rich()
	numbers, lists := partsOf(&a)
	unlike := func(turn func(numbers, lists []reflect.Value)) {
		t.Helper()
		b := rich()
		c, was := setup.Copy(b), shown(b)
		same(t, a, b, true)
		turn(partsOf(&b))
		same(t, a, b, false)
		same(t, c, b, false)
		turn(partsOf(&c))
		same(t, c, b, true)
		same(t, a, c, false)
		if shown(a) != was {
			t.Fatalf("%s became %s", was, shown(a))
		}
	}
	for i := range numbers {
		for _, n := range []int64{1, -1, 1 << 8, 1 << 32} {
			if numbers[i].CanInt() || n < 1<<8 {
				unlike(func(numbers, _ []reflect.Value) { add(numbers[i], n) })
			}
		}
	}
	for i := range lists {
		unlike(func(_, lists []reflect.Value) { longer(lists[i]) })
		if many := lists[i].Len(); many > 0 {
			unlike(func(_, lists []reflect.Value) { lists[i].SetLen(many - 1) })
			unlike(func(_, lists []reflect.Value) { lists[i].SetZero() })
			unlike(func(_, lists []reflect.Value) { lists[i].Set(lists[i].Slice(1, many)) })
		}
	}
}

// P6.1: a list of nothing is as no list, at any level.
func TestP6_1NoList(t *testing.T) {
	same(t, api.Setup{}, api.Setup{Init: []int64{}, Threads: []thread{}}, true)
	same(t, of(nil, thread{nil}), of(thread{}, thread{{}}), true)
	same(t, of(), of(nil), false)
	same(t, of(nil), of(thread{nil}), false)
	for _, a := range append(odd(), mays()...) {
		for _, b := range []api.Setup{alike(a), alike(alike(a))} {
			same(t, a, b, true)
			same(t, setup.Copy(a), setup.Copy(b), true)
			checked(t, b, setup.Check(a) == api.OK)
			costs(t, b, setup.Cost(a))
		}
	}
}

// span is where a list's memory lies, with the room behind it, and whether the list is one of a copy.
type span struct {
	from, to uintptr
	copied   bool
}

// spans are those of all lists of a setup.
func spans(s api.Setup, copied bool) []span {
	_, lists := partsOf(&s)
	var l []span
	for _, v := range lists {
		if size := uintptr(v.Cap()) * v.Type().Elem().Size(); size > 0 {
			l = append(l, span{v.Pointer(), v.Pointer() + size, copied})
		}
	}
	return l
}

// apart tells whether no list of a copy shares memory with any other one.
func apart(first, c api.Setup) bool {
	l := append(spans(first, false), spans(c, true)...)
	slices.SortFunc(l, func(a, b span) int { return cmp.Compare(a.from, b.from) })
	var end, endCopied uintptr // of those that begin ahead
	for _, x := range l {
		if x.from < endCopied || x.copied && x.from < end {
			return false
		}
		end = max(end, x.to)
		if x.copied {
			endCopied = x.to
		}
	}
	return true
}

// P6.1: a copy is the same to the last, whatever it is of, and shares no memory with it, nor any two lists of it with each other.
func TestP6_1Copy(t *testing.T) {
	shared := retries(2)
	twice := of(thread{shared, shared}, thread{shared})
	twice.Threads = append(twice.Threads, twice.Threads...)
	for _, s := range append(append(odd(), mays()...), alike(rich()), twice) {
		c := setup.Copy(s)
		if !reflect.DeepEqual(c, s) {
			t.Fatalf("Copy of %s: %s", shown(s), shown(c))
		}
		if !apart(s, c) {
			t.Fatalf("Copy of %s shares memory", shown(s))
		}
	}
}

// P6.1: whatever is written over a copy, or behind its lists, the first is as it was; and the other way round.
func TestP6_1CopyWritten(t *testing.T) {
	for turn := range 2 {
		both := [2]api.Setup{alike(rich())}
		both[1] = setup.Copy(both[0])
		was := shown(both[1])
		numbers, lists := partsOf(&both[turn])
		for _, v := range numbers {
			add(v, 1)
		}
		for _, v := range lists {
			longer(v)
		}
		if shown(both[1-turn]) != was || shown(both[turn]) == was {
			t.Fatal("the copy shares memory")
		}
	}
}

// stripeIs tells that a variable's stripe is just this one.
func stripeIs(t testing.TB, v, stripes, want int) {
	t.Helper()
	if n, e := setup.Stripe(v, stripes); n != want || e != api.OK {
		t.Fatalf("Stripe of %d among %d: %d, %v; want %d", v, stripes, n, e, want)
	}
}

// stripeRefused tells that it is ErrArg, and nothing else.
func stripeRefused(t testing.TB, v, stripes int) {
	t.Helper()
	if n, e := setup.Stripe(v, stripes); n != 0 || e != api.ErrArg {
		t.Fatalf("Stripe of %d among %d: %d, %v", v, stripes, n, e)
	}
}

// variablesAre tells that a stripe's variables are just these.
func variablesAre(t testing.TB, stripe, stripes, vars int, want ...int) {
	t.Helper()
	if l, e := setup.Variables(stripe, stripes, vars); !slices.Equal(l, want) || e != api.OK {
		t.Fatalf("Variables of %d among %d below %d: %v, %v; want %v", stripe, stripes, vars, l, e, want)
	}
}

// variablesRefused tells that they are ErrArg, and nothing else.
func variablesRefused(t testing.TB, stripe, stripes, vars int) {
	t.Helper()
	if l, e := setup.Variables(stripe, stripes, vars); len(l) != 0 || e != api.ErrArg {
		t.Fatalf("Variables of %d among %d below %d: %v, %v", stripe, stripes, vars, l, e)
	}
}

// below are numbers below 0, far ones too.
func below() []int { return []int{-1, -2, -3, -1 << 32, math.MinInt + 1, math.MinInt} }

// P6.2: the stripe of a variable, each going on where it was by as many as there are.
func TestP6_2Stripe(t *testing.T) {
	for stripes := 1; stripes <= 40; stripes++ {
		want := 0
		for v := range 200 {
			stripeIs(t, v, stripes, want)
			if want++; want == stripes {
				want = 0
			}
		}
	}
	for _, v := range []int{0, 1, 5, 1 << 32, math.MaxInt - 1, math.MaxInt} {
		stripeIs(t, v, 1, 0)
		stripeIs(t, v, 2, v&1)
		stripeIs(t, v, 1<<32, v&(1<<32-1))
		stripeIs(t, v, 1<<62, v&(1<<62-1))
	}
	stripeIs(t, math.MaxInt, math.MaxInt, 0)
	stripeIs(t, math.MaxInt-1, math.MaxInt, math.MaxInt-1)
	stripeIs(t, 0, math.MaxInt, 0)
}

// P6.2: Stripe refuses each alone, and both.
func TestP6_2StripeRefused(t *testing.T) {
	for _, v := range below() {
		for _, stripes := range []int{1, 2, 3, api.MaxVars, 1 << 32, math.MaxInt} {
			stripeRefused(t, v, stripes)
		}
	}
	for _, stripes := range append(below(), 0) {
		for _, v := range append(below(), 0, 1, 2, 1<<32, math.MaxInt) {
			stripeRefused(t, v, stripes)
		}
	}
}

// P6.2: the variables of a stripe, of each that there may be and more.
func TestP6_2Variables(t *testing.T) {
	for stripes := 1; stripes <= 40; stripes++ {
		for vars := 1; vars <= 80; vars++ {
			lists := make([][]int, stripes)
			for v := range vars {
				lists[v%stripes] = append(lists[v%stripes], v)
			}
			for stripe, want := range lists {
				variablesAre(t, stripe, stripes, vars, want...)
			}
		}
	}
}

// P6.2: the variables of a stripe at numbers far out: no number goes round, and more stripes than variables leave some without any.
func TestP6_2VariablesFar(t *testing.T) {
	const most, half = math.MaxInt, 1 << 62
	variablesAre(t, 0, most, 1, 0)
	variablesAre(t, 1, most, 1)
	variablesAre(t, most-1, most, 1)
	variablesAre(t, most-1, most, most-1)
	variablesAre(t, most-1, most, most, most-1)
	variablesAre(t, 0, most, most, 0)
	variablesAre(t, 7, most, most, 7)
	variablesAre(t, 5, half, most, 5, half+5)
	variablesAre(t, half-1, half, most, half-1)
	variablesAre(t, half-2, half, most, half-2, most-1)
	variablesAre(t, 0, half, half, 0)
	variablesAre(t, 0, half, half+1, 0, half)
	variablesAre(t, 1, half/2, most, 1, half/2+1, half+1, half+half/2+1)
	l, e := setup.Variables(1, 2, 1<<20)
	if len(l) != 1<<19 || l[len(l)-1] != 1<<20-1 || e != api.OK {
		t.Fatal(len(l), e)
	}
}

// P6.2: Variables refuses each alone, and with others.
func TestP6_2VariablesRefused(t *testing.T) {
	fine := []int{1, 2, 5, api.MaxVars, 1 << 32, math.MaxInt}
	none := append(below(), 0)
	all := append(none, fine...)
	for _, stripe := range append(all, 3, 4) {
		for _, stripes := range none {
			for _, vars := range all {
				variablesRefused(t, stripe, stripes, vars)
			}
		}
		for _, stripes := range all {
			for _, vars := range none {
				variablesRefused(t, stripe, stripes, vars)
			}
		}
	}
	for _, stripes := range fine {
		for _, vars := range fine {
			for _, stripe := range below() {
				variablesRefused(t, stripe, stripes, vars)
			}
			variablesRefused(t, stripes, stripes, vars)
			variablesRefused(t, math.MaxInt, stripes, vars)
			variablesRefused(t, stripes+min(1, math.MaxInt-stripes), stripes, vars)
		}
	}
}

// R1: each call tells new memory.
func TestR1New(t *testing.T) {
	a, _ := setup.Variables(1, 2, 9)
	b, _ := setup.Variables(1, 2, 9)
	for i := range a {
		a[i] = 100
	}
	variablesAre(t, 1, 2, 9, b...)
	variablesAre(t, 1, 2, 9, 1, 3, 5, 7)
}

// R1: what is handed in stays, also behind the ends of its lists, at any level.
func TestR1Stays(t *testing.T) {
	for _, s := range append(append(odd(), mays()...), rich()) {
		s, other := alike(s), alike(s)
		var behind []any
		for _, a := range []*api.Setup{&s, &other} {
			_, lists := partsOf(a)
			for _, v := range lists {
				behind = append(behind, reflect.Append(v, reflect.Zero(v.Type().Elem())).Interface())
			}
		}
		was := fmt.Sprint(behind...)
		setup.Check(s)
		setup.Same(s, other)
		setup.Same(other, s)
		setup.Copy(s)
		setup.Cost(s)
		if fmt.Sprint(behind...) != was {
			t.Fatalf("%s became %s", was, fmt.Sprint(behind...))
		}
	}
}
