package expr_test

import (
	"math"
	"math/big"
	"reflect"
	"testing"

	"seesaw/api"
	"seesaw/expr"
)

// P4.1: the chapter's examples.
func TestP4_1Examples(t *testing.T) {
	evals(t, of(api.Add, lit(2), local(1)), []int64{0, 5}, nil, 7)
	evals(t, of(api.Less, lit(-1), lit(0)), nil, nil, 1)
	if !expr.Whole(got(0)) || expr.May(got(0), 0) {
		t.Error("Got 0 in the transaction 0")
	}
}

// P4.1: what operators come to, written out: those that go round, and those of the least and the greatest number.
func TestP4_1Written(t *testing.T) {
	const least, greatest = math.MinInt64, math.MaxInt64
	for _, x := range []struct {
		op         uint8
		a, b, want int64
	}{
		{api.Add, 2, 3, 5}, {api.Add, greatest, 1, least}, {api.Add, least, -1, greatest}, {api.Add, least, least, 0}, {api.Add, greatest, greatest, -2}, {api.Add, least, greatest, -1},
		{api.Sub, 2, 3, -1}, {api.Sub, 3, 2, 1}, {api.Sub, least, 1, greatest}, {api.Sub, greatest, -1, least}, {api.Sub, 0, least, least}, {api.Sub, least, greatest, 1}, {api.Sub, greatest, least, -1},
		{api.Mul, 2, 3, 6}, {api.Mul, -2, 3, -6}, {api.Mul, least, -1, least}, {api.Mul, greatest, 2, -2}, {api.Mul, least, 2, 0}, {api.Mul, greatest, greatest, 1}, {api.Mul, 1 << 32, 1 << 32, 0}, {api.Mul, 1 << 32, 1 << 31, least}, {api.Mul, 5, 0, 0},
		{api.Less, 2, 3, 1}, {api.Less, 3, 2, 0}, {api.Less, 3, 3, 0}, {api.Less, least, greatest, 1}, {api.Less, greatest, least, 0}, {api.Less, least, least, 0}, {api.Less, greatest, greatest, 0}, {api.Less, -1, 0, 1}, {api.Less, greatest - 1, greatest, 1}, {api.Less, least, least + 1, 1},
		{api.Equal, 3, 3, 1}, {api.Equal, 2, 3, 0}, {api.Equal, 3, 2, 0}, {api.Equal, least, greatest, 0}, {api.Equal, greatest, least, 0}, {api.Equal, least, least, 1}, {api.Equal, greatest, greatest, 1}, {api.Equal, 0, least, 0}, {api.Equal, 1, 1<<32 + 1, 0},
	} {
		evals(t, of(x.op, lit(x.a), lit(x.b)), nil, nil, x.want)
		evals(t, of(x.op, local(0), local(1)), []int64{x.a, x.b}, nil, x.want)
		evals(t, of(x.op, got(1), got(0)), nil, []int64{x.b, x.a}, x.want)
	}
}

// P4.1: each operator of each two edges, the first one ahead.
func TestP4_1Operators(t *testing.T) {
	for _, op := range operators() {
		for _, a := range edges() {
			for _, b := range edges() {
				evals(t, of(op, lit(a), lit(b)), nil, nil, operated(op, a, b))
			}
		}
	}
}

// P4.1: a Lit is N, a Local and a Got the one of that number, among no more than there must be, and among more.
func TestP4_1Leaves(t *testing.T) {
	for _, n := range edges() {
		evals(t, lit(n), nil, nil, n)
	}
	for _, more := range []int{0, 1, 20} {
		for n := range int64(api.MaxLocals) {
			l := values(uint64(n), int(n)+1+more)
			evals(t, local(n), l, nil, l[n])
		}
		for n := range int64(api.MaxTx) {
			l := values(uint64(n), int(n)+1+more)
			evals(t, got(n), nil, l, l[n])
		}
	}
}

// P4.1: each Op that there may be, or not, with so many Args.
func TestP4_1Ops(t *testing.T) {
	for op := range 256 {
		for many := range 5 {
			e := api.Expr{Op: uint8(op)}
			for range many {
				e.Args = append(e.Args, lit(1))
			}
			leaf := op >= int(api.Lit) && op <= int(api.Got) && many == 0
			operator := op >= int(api.Add) && op <= int(api.Equal) && many == 2
			if leaf || operator {
				sound(t, e)
			} else {
				broken(t, e)
			}
		}
	}
}

// P4.1: leaves with Args, whichever, are not whole.
func TestP4_1LeafArgs(t *testing.T) {
	for _, e := range []api.Expr{lit(0), lit(-5), local(0), local(7), got(0), got(5)} {
		sound(t, e)
		e.Args = []api.Expr{}
		sound(t, e)
		for _, args := range [][]api.Expr{{lit(0)}, {{}}, {lit(1), lit(2)}, {lit(1), lit(2), lit(3)}} {
			e.Args = args
			broken(t, e)
		}
	}
}

// P4.1: numbers just within, and just beyond.
func TestP4_1Numbers(t *testing.T) {
	for _, n := range edges() {
		sound(t, lit(n))
	}
	for n := range int64(api.MaxLocals) {
		sound(t, local(n))
	}
	for n := range int64(api.MaxTx) {
		sound(t, got(n))
	}
	for _, n := range []int64{-1, -2, math.MinInt64, math.MaxInt64, 1 << 32, math.MinInt64 + 1} {
		broken(t, local(n))
		broken(t, got(n))
	}
	broken(t, local(api.MaxLocals))
	broken(t, local(api.MaxLocals+1))
	broken(t, got(api.MaxTx))
	broken(t, got(api.MaxTx+1))
}

// P4.1: an operator with N, or with too few Args, or too many, or with one that is not whole.
func TestP4_1OperatorForm(t *testing.T) {
	for _, op := range operators() {
		sound(t, of(op, lit(1), local(2)))
		for _, n := range []int64{1, -1, 2, math.MinInt64, math.MaxInt64, 1 << 32} {
			e := of(op, lit(1), local(2))
			e.N = n
			broken(t, e)
		}
		for _, args := range [][]api.Expr{nil, {}, {lit(1)}, {lit(1), lit(2), lit(3)}, {lit(1), lit(2), {}}, {{}, {}}, {lit(1), {}}, {{}, lit(1)}} {
			broken(t, api.Expr{Op: op, Args: args})
		}
	}
}

// P4.1: MaxNest in a row, wherever the inner ones stand, and one more.
func TestP4_1Nest(t *testing.T) {
	for _, op := range operators() {
		for most := 1; most <= api.MaxNest; most++ {
			sound(t, full(op, most, got(2)))
			for turns := range uint(1) << (most - 1) {
				sound(t, row(op, most, turns, local(1)))
			}
		}
		for _, more := range []int{1, 2, 10} {
			most := api.MaxNest + more
			for turns := range uint(1) << min(most-1, 8) {
				broken(t, row(op, most, turns, lit(1)))
			}
		}
		broken(t, full(op, api.MaxNest+1, lit(1)))
	}
}

// P4.1: it ends and answers no, of expressions without an end, and of those that are far more than there may be.
func TestP4_1Endless(t *testing.T) {
	round := []api.Expr{lit(1), {}}
	round[1] = api.Expr{Op: api.Add, Args: round}
	shared := lit(1)
	for range 60 {
		shared = of(api.Mul, shared, shared)
	}
	wide := api.Expr{Op: api.Add, Args: make([]api.Expr, 1<<20)}
	for _, e := range []api.Expr{round[1], shared, wide, row(api.Sub, 1<<16, 0, lit(1))} {
		if expr.Whole(e) || expr.May(e, api.MaxTx) {
			t.Error("whole")
		}
		if v, f := expr.Eval(e, plenty(), plenty()); v != 0 || f != api.ErrForm {
			t.Error(v, f)
		}
	}
}

// P4.1: a Got of an earlier transaction may be, one of itself or of a later one may not, wherever it stands; whatever else is whole may be anywhere.
func TestP4_1May(t *testing.T) {
	for n := -2; n <= api.MaxTx+2; n++ {
		for asked := range int64(api.MaxTx) {
			want := asked < int64(n)
			e := got(asked)
			for range api.MaxNest {
				if expr.May(e, n) != want {
					t.Fatalf("%s in %d: %v", shown(e), n, !want)
				}
				if asked%2 == 0 {
					e = of(api.Sub, local(0), e)
				} else {
					e = of(api.Sub, e, lit(100))
				}
			}
		}
		for _, e := range []api.Expr{lit(1000), local(7), row(api.Add, api.MaxNest, 0, lit(1)), full(api.Less, api.MaxNest, local(5))} {
			if !expr.May(e, n) {
				t.Errorf("%s in %d", shown(e), n)
			}
		}
	}
	for n := range 3 {
		if both := of(api.Add, got(1), got(0)); expr.May(both, n) != (n == 2) || expr.May(of(api.Add, got(0), got(1)), n) != (n == 2) {
			t.Errorf("both in %d", n)
		}
	}
	if !expr.May(got(5), math.MaxInt) || expr.May(got(0), math.MinInt) || !expr.May(lit(0), math.MinInt) {
		t.Error("at the ends")
	}
}

// P4.1: locals and values that are too few: by one, and none at all; wherever that stands, whatever the other one is.
func TestP4_1None(t *testing.T) {
	type lack struct {
		e           api.Expr
		locals, got []int64
	}
	var leaves []lack
	for n := range int64(api.MaxLocals) {
		leaves = append(leaves, lack{local(n), plenty()[:n], plenty()})
	}
	for n := range int64(api.MaxTx) {
		leaves = append(leaves, lack{got(n), plenty(), plenty()[:n]})
	}
	for _, x := range leaves {
		refused(t, x.e, x.locals, x.got, api.ErrNone)
		refused(t, x.e, nil, nil, api.ErrNone)
		for _, op := range operators() {
			for _, e := range []api.Expr{of(op, x.e, lit(0)), of(op, lit(0), x.e), of(op, x.e, x.e), of(op, lit(3), of(op, x.e, lit(3)))} {
				refused(t, e, x.locals, x.got, api.ErrNone)
			}
		}
	}
}

// P4.1: room behind the end of a list is not a part of it.
func TestP4_1Room(t *testing.T) {
	l := plenty()
	refused(t, local(3), l[:3], nil, api.ErrNone)
	refused(t, got(3), nil, l[:3:4], api.ErrNone)
}

// P4.1: what is not whole is told ahead of what is not there, wherever both stand.
func TestP4_1Order(t *testing.T) {
	for _, none := range []api.Expr{local(0), got(0), of(api.Add, local(7), got(5))} {
		for _, form := range []api.Expr{{}, local(-1), got(api.MaxTx), {Op: api.Lit, Args: []api.Expr{lit(1)}}, row(api.Add, api.MaxNest, 0, lit(1))} {
			for _, op := range operators() {
				refused(t, of(op, none, form), nil, nil, api.ErrForm)
				refused(t, of(op, form, none), nil, nil, api.ErrForm)
			}
		}
	}
	refused(t, api.Expr{Op: api.Add, N: 1, Args: []api.Expr{local(0), got(0)}}, nil, nil, api.ErrForm)
	refused(t, api.Expr{Op: api.Local, Args: []api.Expr{lit(1)}}, nil, nil, api.ErrForm)
}

// P4.1: Count of any expression, written out, and by going through its parts.
func TestP4_1Count(t *testing.T) {
	for _, x := range []struct {
		e    api.Expr
		want int
	}{
		{api.Expr{}, 1}, {lit(5), 1}, {local(-1), 1}, {of(api.Add, lit(1), lit(1)), 3},
		{api.Expr{Op: api.Lit, Args: []api.Expr{{}, {}, {}}}, 4}, {api.Expr{Op: 99, Args: make([]api.Expr, 1000)}, 1001},
		{full(api.Add, api.MaxNest, lit(1)), 63}, {full(api.Add, 10, lit(1)), 1023}, {row(api.Add, 1<<15, 5, lit(1)), 1<<16 - 1},
	} {
		if n := expr.Count(x.e); n != x.want {
			t.Errorf("Count: %d; want %d", n, x.want)
		}
	}
	for _, e := range odd() {
		if n := expr.Count(e); n != len(parts(e)) {
			t.Errorf("Count of %s: %d; want %d", shown(e), n, len(parts(e)))
		}
	}
}

// P4.1: of expressions of any kind each is the same as itself and its copy, and as no other one.
func TestP4_1Same(t *testing.T) {
	l := odd()
	for i, a := range l {
		for j, b := range l {
			if expr.Same(a, b) != (i == j) || expr.Same(a, expr.Copy(b)) != (i == j) || expr.Same(expr.Copy(a), b) != (i == j) {
				t.Errorf("Same of %s and %s: %v", shown(a), shown(b), i != j)
			}
		}
	}
}

// P4.1: one thing that is another one, anywhere, and it is not the same.
func TestP4_1Unlike(t *testing.T) {
	for i := range len(parts(full(api.Add, 4, lit(2)))) {
		for _, turn := range []func(e *api.Expr){
			func(e *api.Expr) { e.Op++ },
			func(e *api.Expr) { e.Op = 0 },
			func(e *api.Expr) { e.N++ },
			func(e *api.Expr) { e.N += 1 << 32 },
			func(e *api.Expr) { e.N = math.MinInt64 },
			func(e *api.Expr) { e.Args = append(e.Args, api.Expr{}) },
			func(e *api.Expr) { e.Args = []api.Expr{lit(9)} },
		} {
			a, b := full(api.Add, 4, lit(2)), full(api.Add, 4, lit(2))
			if !expr.Same(a, b) {
				t.Fatal("not the same")
			}
			turn(nth(&b, i))
			if expr.Same(a, b) || expr.Same(b, a) {
				t.Errorf("the same: %s and %s", shown(a), shown(b))
			}
		}
	}
}

// nth is the part of that number, ahead of those in it.
func nth(e *api.Expr, n int) *api.Expr {
	if n == 0 {
		return e
	}
	n--
	for i := range e.Args {
		if many := len(parts(e.Args[i])); n >= many {
			n -= many
			continue
		}
		return nth(&e.Args[i], n)
	}
	return nil
}

// P4.1: a list of nothing and no list are the same.
func TestP4_1NoList(t *testing.T) {
	none, empty := lit(4), api.Expr{Op: api.Lit, N: 4, Args: []api.Expr{}}
	for _, e := range []api.Expr{none, empty} {
		for _, f := range []api.Expr{none, empty} {
			if !expr.Same(e, f) || !expr.Same(of(api.Add, e, f), of(api.Add, f, e)) || !expr.Same(expr.Copy(e), f) {
				t.Error("not the same")
			}
		}
		if c := expr.Copy(e); len(c.Args) != 0 || expr.Count(e) != 1 {
			t.Error(c)
		}
	}
}

// P4.1: a copy is the same to the last, whatever it is of.
func TestP4_1Copy(t *testing.T) {
	for _, e := range odd() {
		c := expr.Copy(e)
		if shown(c) != shown(e) || !reflect.DeepEqual(c, e) {
			t.Errorf("Copy of %s: %s", shown(e), shown(c))
		}
	}
}

// P4.1: a copy shares no memory with what it is of: not its parts, not the room behind them; nor do its parts with one another.
func TestP4_1Apart(t *testing.T) {
	for _, e := range odd() {
		before := shown(e)
		for i := range parts(e) {
			c := expr.Copy(e)
			at := nth(&c, i)
			*at = api.Expr{Op: 123, N: 45}
			if shown(e) != before {
				t.Fatalf("%s became %s", before, shown(e))
			}
		}
	}
	both := []api.Expr{lit(1), lit(2), lit(3)}[:2]
	e := of(api.Sub, api.Expr{Op: api.Add, Args: both}, api.Expr{Op: api.Add, Args: both})
	c := expr.Copy(e)
	c.Args[0].Args[0].N = 7
	if c.Args[1].Args[0].N != 1 || both[0].N != 1 {
		t.Error("its parts share memory")
	}
	c.Args[0].Args = append(c.Args[0].Args, lit(9))
	if both[:3][2].N != 3 {
		t.Error("room that is shared")
	}
	both[1].N = 8
	if c.Args[0].Args[1].N != 2 {
		t.Error("what it is of is seen in it")
	}
	room := api.Expr{Op: api.Lit, Args: []api.Expr{lit(1)}[:0]}
	if c := expr.Copy(room); cap(c.Args) > 0 {
		t.Error("room of a list of nothing that is shared")
	}
}

// P4.1: as many in a row as the document's bound has.
func TestP4_1Deep(t *testing.T) {
	const most = 1 << 16
	for _, turns := range []uint{0, math.MaxUint} {
		e := row(api.Add, most, turns, local(-1))
		c := expr.Copy(e)
		if expr.Count(e) != 2*most-1 || expr.Count(c) != 2*most-1 || !expr.Same(e, c) {
			t.Error("deep")
		}
		end := &c
		for len(end.Args) > 0 {
			end = &end.Args[1-turns&1]
		}
		end.N++
		if expr.Same(e, c) {
			t.Error("unlike at its end")
		}
	}
}

// R1: what is handed in stays, whatever is asked of it.
func TestR1Stays(t *testing.T) {
	all := odd()
	for n := range api.MaxTx {
		all = append(all, mays(n)[:100]...)
	}
	for _, e := range all {
		before, locals, got := shown(e), plenty(), plenty()
		expr.Whole(e)
		expr.May(e, 3)
		expr.Count(e)
		expr.Same(e, e)
		expr.Copy(e)
		expr.Eval(e, locals, got)
		if shown(e) != before || !reflect.DeepEqual(locals, plenty()) || !reflect.DeepEqual(got, plenty()) {
			t.Fatalf("%s became %s", before, shown(e))
		}
	}
}

// left is what is left of a value by a number, 0 or more, by another's hand.
func left(x int64, vars int) int {
	return int(new(big.Int).Mod(big.NewInt(x), big.NewInt(int64(vars))).Int64())
}

// means tells which variable a value means.
func means(t testing.TB, x int64, vars, want int) {
	t.Helper()
	if n, e := expr.Variable(x, vars); n != want || e != api.OK {
		t.Fatalf("Variable of %d among %d: %d, %v; want %d", x, vars, n, e, want)
	}
}

// P4.2: the chapter's example, and others written out.
func TestP4_2Written(t *testing.T) {
	means(t, -1, 4, 3)
	means(t, 0, 4, 0)
	means(t, 3, 4, 3)
	means(t, 4, 4, 0)
	means(t, -4, 4, 0)
	means(t, -5, 4, 3)
	means(t, -7, 4, 1)
	means(t, 7, 1, 0)
	means(t, math.MaxInt64, 2, 1)
	means(t, math.MinInt64, 2, 0)
	means(t, math.MinInt64, 3, 1)
	means(t, math.MinInt64+1, 3, 2)
	means(t, math.MaxInt64, 10, 7)
	means(t, math.MinInt64, 10, 2)
	means(t, math.MaxInt64, math.MaxInt64, 0)
	means(t, math.MinInt64, math.MaxInt64, math.MaxInt64-1)
	means(t, -1, math.MaxInt64, math.MaxInt64-1)
}

// P4.2: values below 0, at 0 and above, and those at both ends, among many numbers of variables.
func TestP4_2Variable(t *testing.T) {
	vars := []int{100, 1000, 1<<31 - 1, 1 << 31, 1<<62 + 1, math.MaxInt64 - 1, math.MaxInt64}
	for n := range api.MaxVars + 1 {
		vars = append(vars, n+1)
	}
	for _, n := range vars {
		for x := int64(-200); x <= 200; x++ {
			means(t, x, n, left(x, n))
			means(t, math.MinInt64+200+x, n, left(math.MinInt64+200+x, n))
			means(t, math.MaxInt64-200+x, n, left(math.MaxInt64-200+x, n))
		}
		for _, x := range edges() {
			means(t, x, n, left(x, n))
		}
	}
}

// P4.2: too few variables.
func TestP4_2Arg(t *testing.T) {
	for _, vars := range []int{0, -1, -2, -api.MaxVars, math.MinInt} {
		for _, x := range edges() {
			if n, e := expr.Variable(x, vars); n != 0 || e != api.ErrArg {
				t.Errorf("Variable of %d among %d: %d, %v", x, vars, n, e)
			}
		}
	}
}
