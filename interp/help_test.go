package interp_test

import (
	"fmt"
	"maps"
	"slices"
	"testing"

	"seesaw/api"
	"seesaw/expr"
	"seesaw/interp"
	"seesaw/sample"
)

// Short names of what is made for tests.
var (
	lit, local, got, of = sample.Lit, sample.Local, sample.Got, sample.Of
	set, read, write    = sample.Set, sample.Read, sample.Write
	either, loop        = sample.If, sample.Loop
	retry, orElse       = sample.Retry, sample.OrElse
	leave, block        = sample.Return, sample.Block
)

// locals are those of a machine, pairs what it has written.
type (
	locals = [api.MaxLocals]int64
	pairs  = []api.Pair
)

// What a machine may ask for.
var (
	inner   = interp.Ask{Kind: interp.Inner}
	retries = interp.Ask{Kind: interp.Retries}
)

func asks(at int) interp.Ask { return interp.Ask{Kind: interp.Asks, At: at} }

func ends(x int64) interp.Ask { return interp.Ask{Kind: interp.Ends, X: x} }

// moment is all that a machine tells at once.
type moment struct {
	ask    interp.Ask
	locals locals
	writes string
	steps  int
}

// now is what a machine tells.
func now(m *interp.Machine) moment {
	return moment{m.Next(), m.Locals(), fmt.Sprint(m.Writes()), m.Steps()}
}

// answers tell what is answered, the n-th time, of a variable.
type answers func(n, at int) int64

// memory are answers that hang on the variable alone.
func memory(seed uint64) answers {
	next := sample.Noise(seed)
	var l [api.MaxVars]int64
	for v := range l {
		l[v] = int64(next(9) - 4)
	}
	return func(_, at int) int64 { return l[at] }
}

// noise are answers that hang on how many there were.
func noise(seed uint64) answers {
	return func(n, at int) int64 { return int64(sample.Noise(seed*1000+uint64(n*40+at))(9) - 4) }
}

// How a block of the model ends.
const (
	through = iota
	ended
	retried
)

// model is the chapter's words a second time, block within block.
type model struct {
	vars   int
	got    []int64
	answer answers
	asked  int
	locals locals
	wrote  map[int]int64
	told   []moment
}

// plain is what a machine must tell from its beginning to its end.
func plain(tx []api.Stmt, vars int, got []int64, answer answers) []moment {
	m := &model{vars: vars, got: got, answer: answer, wrote: map[int]int64{}}
	if m.block(tx, false) == through {
		m.tell(ends(0))
	}
	return m.told
}

// tell keeps what is to be told ahead of a statement.
func (m *model) tell(ask interp.Ask) {
	var l pairs
	for _, v := range slices.Sorted(maps.Keys(m.wrote)) {
		l = append(l, api.Pair{At: v, X: m.wrote[v]})
	}
	m.told = append(m.told, moment{ask, m.locals, fmt.Sprint(l), len(m.told)})
}

func (m *model) value(e api.Expr) int64 {
	x, wrong := expr.Eval(e, m.locals[:], m.got)
	if wrong != api.OK {
		panic(wrong)
	}
	return x
}

func (m *model) variable(e api.Expr) int {
	n := int64(m.vars)
	return int((m.value(e)%n + n) % n)
}

// block does a block, which stands within the Body of an OrElse, or not.
func (m *model) block(l []api.Stmt, within bool) int {
	for _, s := range l {
		if how := m.stmt(s, within); how != through {
			return how
		}
	}
	return through
}

func (m *model) stmt(s api.Stmt, within bool) int {
	switch s.Kind {
	case api.Read:
		m.read(s)
		return through
	case api.Return:
		m.tell(ends(m.value(s.A)))
		return ended
	case api.Retry:
		if !within {
			m.tell(retries)
			return ended
		}
	}
	m.tell(inner)
	switch s.Kind {
	case api.Set:
		m.locals[s.To] = m.value(s.A)
	case api.Write:
		m.wrote[m.variable(s.A)] = m.value(s.B)
	case api.Retry:
		return retried
	case api.OrElse:
		return m.orElse(s, within)
	case api.If:
		if m.value(s.A) == 0 {
			return m.block(s.Else, within)
		}
		return m.block(s.Body, within)
	case api.Loop:
		return m.block(slices.Repeat(s.Body, turns(m.value(s.A))), within)
	}
	return through
}

func (m *model) read(s api.Stmt) {
	at := m.variable(s.A)
	x, is := m.wrote[at]
	if is {
		m.tell(inner)
	} else {
		m.tell(asks(at))
		x = m.answer(m.asked, at)
		m.asked++
	}
	m.locals[s.To] = x
}

func (m *model) orElse(s api.Stmt, within bool) int {
	was, wrote := m.locals, maps.Clone(m.wrote)
	how := m.block(s.Body, true)
	if how != retried {
		return how
	}
	m.locals, m.wrote = was, wrote
	return m.block(s.Else, within)
}

// turns are how often a Loop goes round.
func turns(x int64) int {
	switch {
	case x < 0:
		return 0
	case x > 8:
		return 8
	}
	return int(x)
}

// begun is a machine.
func begun(t testing.TB, tx []api.Stmt, vars int, got ...int64) *interp.Machine {
	t.Helper()
	m, e := interp.New(tx, vars, got)
	if e != api.OK || m == nil {
		t.Fatalf("New of %+v, %d, %v: %v", tx, vars, got, e)
	}
	return m
}

// refused tells that there is no such machine.
func refused(t testing.TB, want api.Errno, tx []api.Stmt, vars int, got ...int64) {
	t.Helper()
	if m, e := interp.New(tx, vars, got); e != want || m != nil {
		t.Fatalf("New of %+v, %d, %v: %v, %v; want %v", tx, vars, got, m, e, want)
	}
}

// hands tells that a call answers just this.
func hands(t testing.TB, name string, is, want api.Errno) {
	t.Helper()
	if is != want {
		t.Fatalf("%s: %v; want %v", name, is, want)
	}
}

// same tells that a machine tells just this.
func same(t testing.TB, m *interp.Machine, want moment) {
	t.Helper()
	if is := now(m); is != want {
		t.Fatalf("a machine tells\n%+v; want\n%+v", is, want)
	}
}

// refuses tells that a machine refuses what does not fit to where it is, and is as it was.
func refuses(t testing.TB, m *interp.Machine) {
	t.Helper()
	was := now(m)
	if was.ask.Kind != interp.Inner {
		hands(t, "Step", m.Step(), api.ErrState)
	}
	if was.ask.Kind != interp.Asks {
		hands(t, "Answer", m.Answer(-77), api.ErrState)
	}
	same(t, m, was)
}

// on does the next statement, if there is one to do, with the answer x if it asks.
func on(t testing.TB, m *interp.Machine, x int64) bool {
	t.Helper()
	refuses(t, m)
	switch m.Next().Kind {
	case interp.Inner:
		hands(t, "Step", m.Step(), api.OK)
	case interp.Asks:
		hands(t, "Answer", m.Answer(x), api.OK)
	default:
		return false
	}
	return true
}

// steps does so many steps, of which none asks.
func steps(t testing.TB, m *interp.Machine, many int) {
	t.Helper()
	for range many {
		hands(t, "Step", m.Step(), api.OK)
	}
}

// over goes on over just these, from the machine's beginning, as far as they are followed by more.
func over(t testing.TB, m *interp.Machine, l []moment, answer answers) {
	t.Helper()
	holds(t, m, l, 0, len(l), answer)
}

// holds tells that a machine tells just these, from the at-th to the one ahead of the end-th, one behind the other, and goes on behind each that is not where it Ends, or Retries.
func holds(t testing.TB, m *interp.Machine, l []moment, at, end int, answer answers) {
	t.Helper()
	asked := 0
	for i, want := range l[:end] {
		x := int64(0)
		if want.ask.Kind == interp.Asks {
			x = answer(asked, want.ask.At)
			asked++
		}
		if i < at {
			continue
		}
		same(t, m, want)
		if goes := on(t, m, x); goes != (want.ask.Kind == interp.Inner || want.ask.Kind == interp.Asks) {
			t.Fatalf("it goes on behind %+v: %v", want, goes)
		}
	}
}

// does tells that a transaction's machine does what the model does, and hands back what that tells.
func does(t testing.TB, tx []api.Stmt, vars int, got []int64, answer answers) []moment {
	t.Helper()
	l := plain(tx, vars, got, answer)
	over(t, begun(t, tx, vars, got...), l, answer)
	return l
}

// row tells that a machine asks for just these, one behind the other, and is at its end then; what it asks for is answered by 100 and the variable.
func row(t testing.TB, m *interp.Machine, l ...interp.Ask) {
	t.Helper()
	from := m.Steps()
	for i, want := range l {
		if a := m.Next(); a != want {
			t.Fatalf("Next, behind %v: %+v; want %+v", l[:i], a, want)
		}
		if n := m.Steps() - from; n != i {
			t.Fatalf("Steps behind %v: %d more", l[:i], n)
		}
		if goes := on(t, m, int64(100+want.At)); goes != (i < len(l)-1) {
			t.Fatalf("it goes on behind %v: %v", l[:i+1], goes)
		}
	}
}

// wrote tells that just this was written.
func wrote(t testing.TB, m *interp.Machine, want ...api.Pair) {
	t.Helper()
	if l := m.Writes(); !slices.Equal(l, want) {
		t.Fatalf("Writes: %v; want %v", l, want)
	}
}

// keeps tells that the locals are just these, and 0 behind them.
func keeps(t testing.TB, m *interp.Machine, l ...int64) {
	t.Helper()
	var want locals
	copy(want[:], l)
	if is := m.Locals(); is != want {
		t.Fatalf("Locals: %v; want %v", is, want)
	}
}

// pair is a variable with a value.
func pair(at int, x int64) api.Pair { return api.Pair{At: at, X: x} }

// inners are so many Inner, and then this.
func inners(many int, then interp.Ask) []interp.Ask {
	return append(slices.Repeat([]interp.Ask{inner}, many), then)
}

// wraps put a block into a statement, so that just it is done, in each way that there is; how many steps that takes, and whether it is the Body of an OrElse then.
func wraps() []wrap {
	return []wrap{
		{func(in []api.Stmt) api.Stmt { return either(lit(1), in, block(leave(lit(-1)))) }, 1, false},
		{func(in []api.Stmt) api.Stmt { return either(lit(0), block(leave(lit(-1))), in) }, 1, false},
		{func(in []api.Stmt) api.Stmt { return loop(lit(1), in...) }, 1, false},
		{func(in []api.Stmt) api.Stmt { return orElse(in, block(leave(lit(-1)))) }, 1, true},
		{func(in []api.Stmt) api.Stmt { return orElse(block(set(7, lit(9)), retry()), in) }, 3, false},
	}
}

type wrap struct {
	around func(in []api.Stmt) api.Stmt
	steps  int
	body   bool
}

// nests are a block as it is, in each wrap, and in each wrap within each wrap.
func nests(in ...api.Stmt) []nest {
	l := []nest{{in, 0, false}}
	for _, a := range wraps() {
		one := block(a.around(in))
		l = append(l, nest{one, a.steps, a.body})
		for _, b := range wraps() {
			l = append(l, nest{block(b.around(one)), a.steps + b.steps, a.body || b.body})
		}
	}
	return l
}

// nest is a transaction with a block somewhere, how many steps there are ahead of it, and whether it is within the Body of an OrElse.
type nest struct {
	tx    []api.Stmt
	steps int
	body  bool
}

// run is a transaction with all that it needs.
type run struct {
	tx     []api.Stmt
	vars   int
	got    []int64
	answer answers
}

// runs are any of these.
func runs(seed uint64, many int) []run {
	var l []run
	next := sample.Noise(seed)
	for i := range many {
		n := next(api.MaxTx)
		r := run{vars: 1 + next(5), answer: noise(uint64(i))}
		if next(8) == 0 {
			r.vars = api.MaxVars
		}
		for range n {
			r.got = append(r.got, int64(next(9)-4))
		}
		if next(4) == 0 {
			r.tx = sample.Tx(next, n)
		} else {
			r.tx = sample.Busy(next, n)
		}
		if next(2) == 0 {
			r.answer = memory(uint64(i))
		}
		l = append(l, r)
	}
	return l
}
