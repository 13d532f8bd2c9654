package expr_test

import (
	"math"
	"math/big"
	"strconv"
	"strings"
	"testing"

	"seesaw/api"
	"seesaw/expr"
	"seesaw/sample"
)

// Short names of what is made for tests.
var lit, local, got, of = sample.Lit, sample.Local, sample.Got, sample.Of

// operators are all Ops of two Args.
func operators() []uint8 { return []uint8{api.Add, api.Sub, api.Mul, api.Less, api.Equal} }

// edges are values that rise, those at both ends and about 0 among them.
func edges() []int64 {
	return []int64{
		math.MinInt64, math.MinInt64 + 1, math.MinInt64 / 2, -1 << 32, math.MinInt32, -1000, -7, -2, -1,
		0, 1, 2, 7, 1000, math.MaxInt32, 1 << 32, math.MaxInt64/2 + 1, math.MaxInt64 - 1, math.MaxInt64,
	}
}

// row is expressions one in the other, so many of them; the inner one stands first or second, as turns tells bit by bit, and a leaf beside it.
func row(op uint8, most int, turns uint, leaf api.Expr) api.Expr {
	e := leaf
	for i := range most - 1 {
		if turns>>i&1 == 1 {
			e = of(op, e, leaf)
		} else {
			e = of(op, leaf, e)
		}
	}
	return e
}

// full is an expression with so many in a row everywhere.
func full(op uint8, most int, leaf api.Expr) api.Expr {
	if most == 1 {
		return leaf
	}
	return of(op, full(op, most-1, leaf), full(op, most-1, leaf))
}

// may is an expression that may be in the transaction n, so many in a row at most.
func may(next sample.Next, n, most int) api.Expr {
	if most == 1 || next(4) == 0 {
		switch next(3) {
		case 0:
			return lit(edges()[next(len(edges()))])
		case 1:
			if n > 0 {
				return got(int64(next(n)))
			}
		}
		return local(int64(next(api.MaxLocals)))
	}
	return of(operators()[next(5)], may(next, n, most-1), may(next, n, most-1))
}

// mays are many of them, of each transaction n.
func mays(n int) []api.Expr {
	next := sample.Noise(uint64(n) + 1)
	var l []api.Expr
	for i := range 600 {
		l = append(l, may(next, n, 1+i%api.MaxNest))
	}
	return l
}

// values are so many values, unlike for unlike seeds.
func values(seed uint64, many int) []int64 {
	next := sample.Noise(seed)
	var l []int64
	for range many {
		l = append(l, edges()[next(len(edges()))]+int64(next(5)))
	}
	return l
}

// parts are an expression and all that are in it.
func parts(e api.Expr) []api.Expr {
	l := []api.Expr{e}
	for _, a := range e.Args {
		l = append(l, parts(a)...)
	}
	return l
}

// deep is how many stand in a row at most.
func deep(e api.Expr) int {
	most := 0
	for _, a := range e.Args {
		most = max(most, deep(a))
	}
	return most + 1
}

// isWhole is, by the chapter's words one behind the other, whether an expression is whole.
func isWhole(e api.Expr) bool {
	for _, p := range parts(e) {
		switch {
		case p.Op < api.Lit || p.Op > api.Equal:
			return false
		case p.Op <= api.Got && len(p.Args) > 0:
			return false
		case p.Op == api.Local && (p.N < 0 || p.N > api.MaxLocals-1):
			return false
		case p.Op == api.Got && (p.N < 0 || p.N > api.MaxTx-1):
			return false
		case p.Op > api.Got && (p.N != 0 || len(p.Args) != 2):
			return false
		}
	}
	return deep(e) <= api.MaxNest
}

// comesTo is what an expression that is whole comes to, in numbers without end that are cut to 64 bits; false: something is not there.
func comesTo(e api.Expr, locals, got []int64) (int64, bool) {
	from := locals
	switch e.Op {
	case api.Lit:
		return e.N, true
	case api.Got:
		from = got
		fallthrough
	case api.Local:
		if int(e.N) >= len(from) {
			return 0, false
		}
		return from[e.N], true
	}
	a, okA := comesTo(e.Args[0], locals, got)
	b, okB := comesTo(e.Args[1], locals, got)
	if !okA || !okB {
		return 0, false
	}
	return operated(e.Op, a, b), true
}

// operated is what an operator makes of two values.
func operated(op uint8, a, b int64) int64 {
	x, y, z := big.NewInt(a), big.NewInt(b), new(big.Int)
	switch op {
	case api.Add:
		z.Add(x, y)
	case api.Sub:
		z.Sub(x, y)
	case api.Mul:
		z.Mul(x, y)
	case api.Less:
		if x.Cmp(y) < 0 {
			z.SetInt64(1)
		}
	case api.Equal:
		if x.Cmp(y) == 0 {
			z.SetInt64(1)
		}
	}
	z.And(z, new(big.Int).SetUint64(math.MaxUint64))
	return int64(z.Uint64())
}

// shown is an expression as a text that unlike ones have not in common; a list of nothing and no list are the same.
func shown(e api.Expr) string {
	var b strings.Builder
	b.WriteString(strconv.Itoa(int(e.Op)) + ":" + strconv.FormatInt(e.N, 10))
	if len(e.Args) > 0 {
		b.WriteString("(")
		for _, a := range e.Args {
			b.WriteString(shown(a) + " ")
		}
		b.WriteString(")")
	}
	return b.String()
}

// evals tells that Eval tells just this value.
func evals(t testing.TB, e api.Expr, locals, got []int64, want int64) {
	t.Helper()
	if v, f := expr.Eval(e, locals, got); v != want || f != api.OK {
		t.Fatalf("Eval of %s over %v, %v: %d, %v; want %d", shown(e), locals, got, v, f, want)
	}
}

// refused tells that Eval answers just an error.
func refused(t testing.TB, e api.Expr, locals, got []int64, want api.Errno) {
	t.Helper()
	if v, f := expr.Eval(e, locals, got); v != 0 || f != want {
		t.Fatalf("Eval of %s over %v, %v: %d, %v; want 0, %v", shown(e), locals, got, v, f, want)
	}
}

// plenty are more values than any expression that is whole asks.
func plenty() []int64 { return values(5, api.MaxLocals+api.MaxTx) }

// broken tells that an expression is not whole, wherever it stands: so it may be nowhere, and comes to nothing.
func broken(t testing.TB, e api.Expr) {
	t.Helper()
	l := []api.Expr{e}
	for _, op := range operators() {
		l = append(l, of(op, e, lit(1)), of(op, lit(1), e), of(op, of(op, local(0), e), got(0)))
	}
	for _, e := range l {
		if expr.Whole(e) {
			t.Fatalf("%s is whole", shown(e))
		}
		for n := -1; n <= api.MaxTx+1; n++ {
			if expr.May(e, n) {
				t.Fatalf("%s may be in the transaction %d", shown(e), n)
			}
		}
		refused(t, e, plenty(), plenty(), api.ErrForm)
		refused(t, e, nil, nil, api.ErrForm)
	}
}

// sound tells that an expression is whole, and comes to what it should.
func sound(t testing.TB, e api.Expr) {
	t.Helper()
	if !expr.Whole(e) {
		t.Fatalf("%s is not whole", shown(e))
	}
	v, _ := comesTo(e, plenty(), plenty()[3:])
	evals(t, e, plenty(), plenty()[3:], v)
}

// odd are expressions of any kind, whole or not, no two of them the same.
func odd() []api.Expr {
	l := []api.Expr{
		{}, {N: 1}, {N: -1}, {Op: 255, N: math.MinInt64}, {Op: 9}, {Op: api.Add}, {Op: api.Add, N: 1},
		lit(0), lit(1), lit(-1), lit(math.MinInt64), lit(math.MaxInt64), local(0), local(1), local(-1), local(8), got(0), got(6),
		{Args: []api.Expr{{}}}, {Args: []api.Expr{{}, {}}}, {Args: []api.Expr{{N: 1}, {}}}, {Args: []api.Expr{{}, {N: 1}}},
		{Op: api.Lit, Args: []api.Expr{lit(0)}}, {Op: api.Local, Args: []api.Expr{lit(0), lit(0)}}, {Op: api.Got, N: 7, Args: []api.Expr{{}}},
		{Op: api.Add, Args: []api.Expr{lit(1)}}, {Op: api.Add, Args: []api.Expr{lit(1), lit(1), lit(1)}}, {Op: api.Add, N: 2, Args: []api.Expr{lit(1), lit(1)}},
		{Op: api.Add, Args: make([]api.Expr, 100)}, {Op: 77, Args: make([]api.Expr, 101)},
		of(api.Add, lit(1), lit(2)), of(api.Add, lit(2), lit(1)), of(api.Sub, lit(1), lit(2)),
		of(api.Add, of(api.Add, lit(1), lit(2)), lit(3)), of(api.Add, lit(1), of(api.Add, lit(2), lit(3))), of(0, lit(1), of(200, lit(2), lit(3))),
		{Op: api.Mul, Args: []api.Expr{{Op: 0, N: 3, Args: []api.Expr{local(-5), got(99), {}}}}},
	}
	for most := 5; most <= 10; most++ {
		l = append(l, row(api.Less, most, 0, lit(3)), row(api.Less, most, math.MaxUint, lit(3)), full(api.Equal, most, local(9)))
	}
	return l
}
