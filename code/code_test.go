package code_test

import (
	"math"
	"reflect"
	"strings"
	"testing"

	"seesaw/api"
	"seesaw/code"
)

// P5.1, P5.2: the chapter's examples.
func TestP5_1Examples(t *testing.T) {
	tx := block(read(0, lit(0)), either(local(0), retries(1), nil))
	costs(t, tx, 3)
	counts(t, tx, 3, 2, 2)
	allowed(t, tx, 0)
	costs(t, block(loop(lit(2), write(lit(0), lit(1)))), 9)
	refused(t, block(api.Stmt{Kind: api.Return, To: 1, A: lit(0)}), 0)
}

// P5.1: what a statement of each Kind costs, with blocks of whatever cost: those that it does not ask cost nothing.
func TestP5_1Cost(t *testing.T) {
	costs(t, nil, 0)
	costs(t, block(), 0)
	for body := range 20 {
		for other := range 20 {
			for kind := range 256 {
				want := 1
				switch uint8(kind) {
				case api.If:
					want += max(body, other)
				case api.Loop:
					want += 8 * body
				case api.OrElse:
					want += body + other
				}
				s := api.Stmt{Kind: uint8(kind), A: lit(1), Body: costing(body), Else: retries(other)}
				costs(t, block(s), want)
				costs(t, block(retry(), s, s), 1+2*want)
			}
		}
	}
}

// P5.1: costs of blocks one in the other.
func TestP5_1CostNested(t *testing.T) {
	one := retries(1)
	for _, x := range []struct {
		s    api.Stmt
		want int
	}{
		{loop(lit(0), loop(lit(0), retry())), 1 + 8*9},
		{loop(lit(0), loop(lit(0), loop(lit(0), retry(), retry()))), 1 + 8*(1+8*17)},
		{loop(lit(9), retry(), loop(lit(9)), retry()), 1 + 8*3},
		{either(lit(1), block(loop(lit(0), one...)), retries(8)), 10},
		{either(lit(1), block(loop(lit(0), one...)), retries(10)), 11},
		{either(lit(1), block(either(lit(1), retries(2), retries(5)), retry()), retries(6)), 8},
		{orElse(block(orElse(one, one)), block(orElse(one, one), loop(lit(0), one...))), 1 + 3 + 3 + 9},
		{orElse(block(either(lit(0), one, retries(4))), nil), 6},
		{loop(lit(0), either(lit(0), retries(2), retries(3)), orElse(retries(2), retries(3))), 1 + 8*(4+6)},
		{loop(api.Expr{}, api.Stmt{Kind: api.Set, Body: retries(100)}), 9},
	} {
		costs(t, block(x.s), x.want)
	}
}

// P5.1: a cost up to MaxCost is told as it is, one beyond, or far beyond, as MaxCost and 1, wherever it stands.
func TestP5_1CostCut(t *testing.T) {
	const most = api.MaxCost
	for cost := most - 20; cost <= most; cost++ {
		costs(t, costing(cost), cost)
		costs(t, retries(cost), cost)
		costs(t, block(either(lit(1), costing(cost-1), retries(cost-1))), cost)
		costs(t, block(orElse(costing(cost/2), retries(cost-1-cost/2))), cost)
	}
	for _, cost := range []int{most + 1, most + 2, most + 3, 2 * most, 1 << 16} {
		costs(t, costing(cost), most+1)
		costs(t, retries(cost), most+1)
		costs(t, block(either(lit(1), retries(cost-1), nil)), most+1)
		costs(t, block(either(lit(1), nil, retries(cost-1))), most+1)
		costs(t, block(orElse(retries(cost-1), nil)), most+1)
		costs(t, block(orElse(nil, retries(cost-1))), most+1)
		costs(t, block(loop(lit(0), retries(cost/8)...), retry()), most+1)
		costs(t, block(retry(), api.Stmt{Kind: api.Retry, Body: retries(cost)}, retry()), 3)
	}
	for _, cost := range []int{1 << 31, 1 << 32, 1 << 40, 1 << 61, math.MaxInt} {
		costs(t, costing(cost), most+1)
		costs(t, append(costing(cost), costing(cost)...), most+1)
	}
	for deep := 1; deep < 200; deep++ {
		costs(t, nest(deep, retries(1), func(int) int { return 2 }), min((1<<min(3*deep, 40)-1)/7, most+1))
	}
}

// P5.1: how many statements and expressions there are, and how deep, of any transaction.
func TestP5_1Count(t *testing.T) {
	two := of(api.Add, lit(1), local(2))
	for _, x := range []struct {
		tx                 []api.Stmt
		stmts, exprs, deep int
	}{
		{nil, 0, 0, 1}, {block(), 0, 0, 1}, {block(api.Stmt{}), 1, 0, 1}, {plain(), 8, 7, 1}, {retries(1000), 1000, 0, 1},
		{block(set(0, two), write(two, two)), 2, 9, 1},
		{block(either(two, retries(2), block(leave(two), retry()))), 5, 6, 2},
		{block(orElse(block(), block())), 1, 0, 1},
		{block(retry(), orElse(nil, retries(1)), retry()), 4, 0, 2},
		{block(orElse(block(orElse(nil, retries(1))), retries(1))), 4, 0, 3},
		{block(orElse(retries(1), block(loop(lit(0), retry())))), 4, 1, 3},
		{block(loop(lit(0), loop(lit(0), loop(lit(0)))), loop(lit(0))), 4, 4, 3},
		// Whatever Kind they stand at.
		{block(api.Stmt{Kind: api.Retry, A: two, B: lit(1)}), 1, 4, 1},
		{block(api.Stmt{Kind: api.Retry, Body: block(set(0, two)), Else: block(read(0, lit(1)))}), 3, 4, 2},
		{block(api.Stmt{Kind: 99, A: lit(1), Else: block(api.Stmt{Body: block(api.Stmt{B: two})})}), 3, 4, 3},
		// Without an Op: none, with N or Args, too; but within another one each counts.
		{block(api.Stmt{Kind: api.Set, A: api.Expr{N: 5}, B: api.Expr{N: -1}}), 1, 0, 1},
		{block(api.Stmt{Kind: api.Write, A: api.Expr{Args: []api.Expr{two, two}}, B: api.Expr{N: 1, Args: []api.Expr{two}}}), 1, 0, 1},
		{block(api.Stmt{Kind: api.Write, A: lit(1), B: api.Expr{Args: []api.Expr{two}}}), 1, 1, 1},
		{block(api.Stmt{Kind: api.Write, A: api.Expr{Args: []api.Expr{two}}, B: lit(1)}), 1, 1, 1},
		{block(api.Stmt{A: api.Expr{Op: 99, Args: []api.Expr{{}, {N: 4, Args: []api.Expr{{}}}}}}), 1, 4, 1},
	} {
		counts(t, x.tx, x.stmts, x.exprs, x.deep)
	}
	for _, tx := range odd() {
		counts(t, tx, len(all(tx)), nodes(tx), deep(tx))
		costs(t, tx, told(price(tx)))
	}
}

// P5.1, P5.2: as many levels of nesting as there may be anywhere, at any Kind.
func TestP5_1Deep(t *testing.T) {
	const levels = 1 << 16
	for kind, want := range map[uint8]int{api.If: api.MaxCost + 1, api.Loop: api.MaxCost + 1, api.OrElse: api.MaxCost + 1, api.Retry: 1, 0: 1} {
		for _, other := range []bool{false, true} {
			tx := block(leave(lit(1)))
			for range levels - 1 {
				if s := (api.Stmt{Kind: kind, Body: tx}); other {
					tx = block(api.Stmt{Kind: kind, Else: tx})
				} else {
					tx = block(s)
				}
			}
			if n, m := code.Count(tx); n != levels || m != 1 || code.Depth(tx) != levels {
				t.Fatal(n, m, code.Depth(tx))
			}
			if cost := code.Cost(tx); cost != want && !(kind == api.Loop && other && cost == 1) {
				t.Fatalf("%d: %d", kind, cost)
			}
			if c := code.Copy(tx); !code.Same(c, tx) || code.May(tx, 0) || code.Same(c, tx[0].Body) {
				t.Fatal("Same, May")
			}
		}
	}
}

// P5.2: May ends, and says no, of what is far too much, or goes round in itself.
func TestP5_2Endless(t *testing.T) {
	round := block(retry(), orElse(nil, nil))
	round[1].Body = round
	shared := retries(1)
	for range 60 {
		shared = block(either(lit(1), shared, shared))
	}
	wide := block(api.Stmt{Kind: api.Write, A: lit(1), B: api.Expr{Op: api.Add, Args: make([]api.Expr, 1<<20)}})
	for _, tx := range [][]api.Stmt{round, shared, wide, retries(1 << 20), block(either(lit(1), retries(1<<20), nil))} {
		if code.May(tx, 0) {
			t.Error("it may be")
		}
	}
}

// P5.2: each Kind with just what it asks; a list of nothing is no list.
func TestP5_2Kinds(t *testing.T) {
	allowed(t, nil, 0)
	allowed(t, block(), 0)
	for i, s := range plain() {
		if s.Kind != uint8(i+1) {
			t.Fatal("plain")
		}
		sound(t, s, 0)
		s.Body, s.Else = block(), block()
		sound(t, s, 0)
		s.Body, s.Else = plain()[:0], plain()[:0]
		sound(t, s, 0)
		if none(s.A) {
			s.A.Args = []api.Expr{}
		}
		if none(s.B) {
			s.B.Args = []api.Expr{}
		}
		sound(t, s, 0)
	}
}

// P5.2: each Kind that asks To, or a block, also with what may stand there.
func TestP5_2Asked(t *testing.T) {
	for i, s := range plain() {
		what, _ := asked(s.Kind)
		for _, letter := range what {
			switch letter {
			case 'T':
				for s.To = range api.MaxLocals {
					sound(t, s, 0)
				}
			case 'A':
				s.A = sized(31, api.MaxNest)
				sound(t, s, 0)
			case 'B':
				s.B = sized(31, api.MaxNest)
				sound(t, s, 0)
			case 'b':
				s.Body = plain()[i%7:][:2]
				sound(t, s, 0)
			case 'e':
				s.Else = plain()[i%7:][:2]
				sound(t, s, 0)
			}
		}
	}
}

// P5.2: each Kind with one thing that it does not ask.
func TestP5_2NotAsked(t *testing.T) {
	exprs := []api.Expr{
		lit(0), lit(1), local(0), got(0), {N: 1}, {N: -1}, {N: math.MinInt64}, {N: 1 << 32}, {Args: []api.Expr{{}}}, {Args: []api.Expr{lit(1), lit(1)}},
		{Op: 9}, {Op: 255}, of(api.Add, lit(1), lit(1)), of(0, lit(1), lit(1)),
	}
	lists := [][]api.Stmt{{{}}, retries(1), retries(2), {set(0, lit(1))}, {orElse(nil, nil)}, plain()}
	for _, s := range plain() {
		what, _ := asked(s.Kind)
		for _, letter := range "TABbe" {
			if strings.ContainsRune(what, letter) {
				continue
			}
			for i, e := range exprs {
				o := s
				switch letter {
				case 'T':
					o.To = 1 + i%api.MaxLocals
				case 'A':
					o.A = e
				case 'B':
					o.B = e
				case 'b':
					o.Body = lists[i%len(lists)]
				case 'e':
					o.Else = lists[i%len(lists)]
				}
				broken(t, o, api.MaxTx)
			}
		}
	}
}

// P5.2: each Kind without one thing that it asks: without an expression it may not be; a To of 0 and empty blocks may.
func TestP5_2Without(t *testing.T) {
	for _, s := range plain() {
		what, _ := asked(s.Kind)
		for _, letter := range what {
			o := s
			switch letter {
			case 'T':
				o.To = 0
				sound(t, o, 0)
			case 'A':
				o.A = api.Expr{}
				broken(t, o, api.MaxTx)
				o.A.Args = []api.Expr{}
				broken(t, o, api.MaxTx)
			case 'B':
				o.B = api.Expr{}
				broken(t, o, api.MaxTx)
				o.B.Args = []api.Expr{}
				broken(t, o, api.MaxTx)
			case 'b':
				o.Body, o.Else = nil, s.Else
				sound(t, o, 0)
			case 'e':
				o.Body, o.Else = s.Body, nil
				sound(t, o, 0)
			}
		}
	}
}

// P5.2: a Kind that there is not, with nothing, or with what others ask.
func TestP5_2NoKind(t *testing.T) {
	for kind := range 256 {
		for _, s := range append(plain(), api.Stmt{}) {
			s.Kind = uint8(kind)
			if _, is := asked(s.Kind); !is {
				broken(t, s, api.MaxTx)
			} else if want := fits(s, 0); want {
				sound(t, s, 0)
			} else {
				broken(t, s, api.MaxTx)
			}
		}
	}
}

// P5.2: To just within and just beyond, and far beyond.
func TestP5_2To(t *testing.T) {
	for _, to := range []int{0, api.MaxLocals - 1} {
		sound(t, set(to, lit(1)), 0)
		sound(t, read(to, lit(1)), 0)
	}
	for _, to := range []int{-1, api.MaxLocals, api.MaxLocals + 1, 256, 1 << 32, math.MinInt, math.MaxInt, -256} {
		for _, s := range plain() {
			s.To = to
			broken(t, s, api.MaxTx)
		}
	}
}

// P5.2: an expression that may not be, in each place where one is asked: it is not whole, or asks what is not returned yet.
func TestP5_2Expr(t *testing.T) {
	for _, s := range plain() {
		what, _ := asked(s.Kind)
		for _, letter := range what {
			put := func(e api.Expr) api.Stmt {
				o := s
				if letter == 'A' {
					o.A = e
				} else {
					o.B = e
				}
				return o
			}
			if letter != 'A' && letter != 'B' {
				continue
			}
			for _, e := range []api.Expr{{N: 1}, {Op: 9}, local(8), local(-1), got(6), got(-1), {Op: api.Lit, Args: []api.Expr{lit(1)}}, {Op: api.Add}, {Op: api.Add, N: 1, Args: []api.Expr{lit(1), lit(2)}}, of(api.Add, lit(1), api.Expr{}), {Args: []api.Expr{lit(1)}}, of(api.Add, sized(63, api.MaxNest), lit(1))} {
				broken(t, put(e), api.MaxTx)
			}
			for n := range api.MaxTx {
				broken(t, put(got(int64(n))), n)
				broken(t, put(of(api.Mul, lit(1), of(api.Mul, got(int64(n)), lit(1)))), n)
				sound(t, put(got(int64(n))), n+1)
				sound(t, put(of(api.Mul, lit(1), of(api.Mul, got(int64(n)), lit(1)))), n+1)
			}
		}
	}
}

// P5.2: n just within and just beyond, and far beyond; of the empty transaction, too.
func TestP5_2N(t *testing.T) {
	for _, tx := range [][]api.Stmt{nil, {}, plain(), retries(1)} {
		for n := range api.MaxTx {
			allowed(t, tx, n)
		}
		for _, n := range []int{-1, -2, api.MaxTx, api.MaxTx + 1, math.MinInt, math.MaxInt, 1 << 32, 256} {
			refused(t, tx, n)
		}
	}
}

// spread puts statements into several blocks, so that of all together there are as many as of these; it takes four at least.
func spread(l []api.Stmt, wrap func(in []api.Stmt) api.Stmt) []api.Stmt {
	part := len(l) / 3
	return append(block(wrap(append(l[:part:part], wrap(l[part:2*part])))), l[2*part+2:]...)
}

// P5.2: MaxStmts statements, in one block and in several, and one more.
func TestP5_2Stmts(t *testing.T) {
	for _, many := range []int{api.MaxStmts - 1, api.MaxStmts, api.MaxStmts + 1, api.MaxStmts + 2, 10 * api.MaxStmts} {
		var l [][]api.Stmt
		for _, s := range []api.Stmt{retry(), set(1, lit(1)), orElse(nil, nil)} {
			one := make([]api.Stmt, many)
			for i := range one {
				one[i] = s
			}
			l = append(l, one)
			for _, wrap := range wraps() {
				l = append(l, spread(one, wrap), block(wrap(one[1:])), append(one[:many/2:many/2], wrap(one[many/2+1:])))
			}
			l = append(l, block(orElse(one[:many/2], one[many/2+1:])), block(either(lit(1), one[:many/2], one[many/2+1:])))
		}
		for _, tx := range l {
			if n := len(all(tx)); n != many {
				t.Fatal(n)
			}
			if many <= api.MaxStmts {
				allowed(t, tx, 0)
			} else {
				refused(t, tx, 0)
			}
		}
	}
}

// P5.2: MaxNodes expressions, at whatever Kinds and in whatever blocks, and one more.
func TestP5_2Nodes(t *testing.T) {
	makes := []func(e api.Expr) api.Stmt{
		func(e api.Expr) api.Stmt { return set(1, e) },
		func(e api.Expr) api.Stmt { return read(2, e) },
		func(e api.Expr) api.Stmt { return either(e, nil, retries(2)) },
		func(e api.Expr) api.Stmt { return loop(e, retry()) },
		func(e api.Expr) api.Stmt { return leave(e) },
	}
	for _, many := range []int{api.MaxNodes - 1, api.MaxNodes, api.MaxNodes + 1, api.MaxNodes + 2, 2 * api.MaxNodes} {
		var l [][]api.Stmt
		for at := range 2 * len(makes) {
			var one, two, mixed []api.Stmt
			for i, e := range sizes(many - 1) {
				one = append(one, makes[at%len(makes)](e))
				mixed = append(mixed, makes[(at+i)%len(makes)](e))
				if two = append(two, write(lit(1), e)); at%2 == 1 {
					two[i] = write(e, lit(1))
				}
			}
			for _, tx := range [][]api.Stmt{append(one, set(0, lit(1))), append(mixed, leave(lit(1))), two[:1]} {
				l = append(l, tx, block(orElse(tx, nil)), append(block(orElse(nil, tx[:1])), tx[1:]...))
			}
			l = append(l, two)
		}
		for _, tx := range l {
			if may(tx, 0) != (nodes(tx) <= api.MaxNodes) {
				t.Fatal("something else is too much")
			}
			if nodes(tx) <= api.MaxNodes {
				allowed(t, tx, 0)
			} else {
				refused(t, tx, 0)
			}
		}
		if nodes(l[0]) != many || nodes(l[3]) != many {
			t.Fatal(nodes(l[0]), nodes(l[3]))
		}
	}
	both := append(block(write(sized(63, api.MaxNest), sized(63, api.MaxNest))), write(sized(63, api.MaxNest), sized(63, api.MaxNest)), write(sized(47, api.MaxNest), lit(1)))
	if nodes(both) != api.MaxNodes {
		t.Fatal(nodes(both))
	}
	allowed(t, both, 0)
	refused(t, append(both, leave(lit(0))), 0)
}

// P5.2: MaxNest blocks one in the other, in whatever way, and one more; an empty block more is none.
func TestP5_2Nest(t *testing.T) {
	for _, most := range []int{1, 2, api.MaxNest - 1, api.MaxNest, api.MaxNest + 1, api.MaxNest + 2, 12} {
		for first := range wraps() {
			for step := range 5 {
				which := func(at int) int {
					if w := (first + at*step) % 5; w != 2 || at == 0 { // a Loop only innermost: the cost stays small
						return w
					}
					return 0
				}
				for _, wrap := range wraps() {
					for _, in := range [][]api.Stmt{retries(1), block(wrap(nil)), block(wrap(block()), retry(), wrap(nil))} {
						tx := nest(most, in, which)
						counts(t, tx, len(all(tx)), nodes(tx), most)
						if most <= api.MaxNest {
							allowed(t, tx, 0)
							allowed(t, append(retries(3), tx...), 0)
						} else {
							refused(t, tx, 0)
							refused(t, append(retries(3), tx...), 0)
						}
					}
				}
			}
		}
	}
}

// P5.2: MaxCost, made in several ways, and one more.
func TestP5_2Cost(t *testing.T) {
	for cost := api.MaxCost - 9; cost <= api.MaxCost+9; cost++ {
		for _, tx := range [][]api.Stmt{
			costing(cost),
			append(costing(cost/2), costing(cost-cost/2)...),
			block(either(lit(1), costing(cost-1), nil)),
			block(either(lit(1), nil, costing(cost-1))),
			block(orElse(costing(cost-1), nil)),
			block(orElse(nil, costing(cost-1))),
			block(orElse(costing(cost/3), costing(cost-1-cost/3))),
		} {
			costs(t, tx, min(cost, api.MaxCost+1))
			if len(all(tx)) > api.MaxStmts || deep(tx) > api.MaxNest {
				t.Fatal("something else is too much")
			}
			if cost <= api.MaxCost {
				allowed(t, tx, 0)
			} else {
				refused(t, tx, 0)
			}
		}
	}
	for _, cost := range []int{1 << 12, 1 << 14} {
		refused(t, costing(cost), 0)
	}
}

// P5.2: whatever transactions there are: just those may be that the chapter's words let be.
func TestP5_2May(t *testing.T) {
	for _, tx := range odd() {
		for n := -1; n <= api.MaxTx; n++ {
			if code.May(tx, n) != may(tx, n) {
				t.Errorf("%s in %d: %v", shown(tx), n, !may(tx, n))
			}
		}
	}
}

// P5.2: of transactions of any kind each is the same as itself and its copy, and as no other one.
func TestP5_2Same(t *testing.T) {
	l := odd()
	for i, a := range l {
		for j, b := range l {
			if code.Same(a, b) != (i == j) || code.Same(a, code.Copy(b)) != (i == j) || code.Same(code.Copy(a), b) != (i == j) {
				t.Errorf("Same of %s and %s: %v", shown(a), shown(b), i != j)
			}
		}
	}
}

// rich is a transaction with something of everything, in blocks and expressions one in the other, in new memory; each list has room behind its end.
func rich() []api.Stmt {
	e := func() api.Expr {
		return api.Expr{Op: api.Add, N: 4, Args: append(make([]api.Expr, 0, 5), lit(1), of(api.Sub, local(2), got(3)))}
	}
	s := func(body, other []api.Stmt) api.Stmt {
		return api.Stmt{Kind: api.If, To: 2, A: e(), B: e(), Body: body, Else: other}
	}
	l := func(a, b api.Stmt) []api.Stmt { return append(make([]api.Stmt, 0, 5), a, b) }
	in := func() []api.Stmt { return l(s(nil, nil), s(l(s(nil, nil), retry()), l(retry(), s(nil, nil)))) }
	return l(s(in(), in()), s(in(), in()))
}

// places are where each statement, and where each expression, of a transaction stands.
func places(tx []api.Stmt) (stmts []*api.Stmt, exprs []*api.Expr) {
	var put func(e *api.Expr)
	put = func(e *api.Expr) {
		exprs = append(exprs, e)
		for i := range e.Args {
			put(&e.Args[i])
		}
	}
	for i := range tx {
		stmts = append(stmts, &tx[i])
		put(&tx[i].A)
		put(&tx[i].B)
		for _, in := range [][]api.Stmt{tx[i].Body, tx[i].Else} {
			s, e := places(in)
			stmts, exprs = append(stmts, s...), append(exprs, e...)
		}
	}
	return stmts, exprs
}

// stmtTurns make a statement another one, each by one thing, or by its blocks.
func stmtTurns() []func(s *api.Stmt) {
	return []func(s *api.Stmt){
		func(s *api.Stmt) { s.Kind++ },
		func(s *api.Stmt) { s.Kind = 0 },
		func(s *api.Stmt) { s.To++ },
		func(s *api.Stmt) { s.To += 1 << 32 },
		func(s *api.Stmt) { s.To = math.MinInt },
		func(s *api.Stmt) { s.A.Op++ },
		func(s *api.Stmt) { s.B.Op++ },
		func(s *api.Stmt) { s.Body = append(s.Body, api.Stmt{}) },
		func(s *api.Stmt) { s.Else = append(s.Else, api.Stmt{}) },
		func(s *api.Stmt) { s.Body, s.Else = append(block(retry()), s.Else...), s.Body },
	}
}

// exprTurns make an expression another one, each by one thing.
func exprTurns() []func(e *api.Expr) {
	return []func(e *api.Expr){
		func(e *api.Expr) { e.Op++ },
		func(e *api.Expr) { e.N++ },
		func(e *api.Expr) { e.N += 1 << 32 },
		func(e *api.Expr) { e.Args = append(e.Args, api.Expr{}) },
	}
}

// P5.2: one thing that is another one, anywhere, and it is not the same; and a copy has nothing of it.
func TestP5_2Unlike(t *testing.T) {
	unlike := func(turn func(tx []api.Stmt)) {
		t.Helper()
		a, b := rich(), rich()
		c := code.Copy(b)
		if !code.Same(a, b) || !code.Same(a, c) {
			t.Fatal("not the same")
		}
		turn(b)
		if code.Same(a, b) || code.Same(b, a) || !code.Same(a, c) {
			t.Fatalf("%s and %s, and the copy %s", shown(a), shown(b), shown(c))
		}
		b = code.Copy(a)
		turn(b)
		if code.Same(a, b) || shown(a) != shown(c) {
			t.Fatalf("%s and %s", shown(a), shown(b))
		}
	}
	stmts, exprs := places(rich())
	for i := range stmts {
		for _, turn := range stmtTurns() {
			unlike(func(tx []api.Stmt) {
				s, _ := places(tx)
				turn(s[i])
			})
		}
	}
	for i := range exprs {
		for _, turn := range exprTurns() {
			unlike(func(tx []api.Stmt) {
				_, e := places(tx)
				turn(e[i])
			})
		}
	}
	a := rich()
	for i := range len(a) {
		if code.Same(a[:i], a) || code.Same(a, a[:i]) || code.Same(a, append(a, a[:i+1]...)) {
			t.Error("a beginning is the same")
		}
	}
}

// P5.2: a list of nothing and no list are the same, as are those in statements.
func TestP5_2NoList(t *testing.T) {
	no := []api.Expr{}
	for _, a := range [][]api.Stmt{nil, {}} {
		for _, b := range [][]api.Stmt{nil, {}} {
			if !code.Same(a, b) || !code.Same(code.Copy(a), b) || len(code.Copy(a)) != 0 {
				t.Error("not the same")
			}
			x := block(api.Stmt{Kind: api.OrElse, Body: a, Else: b}, set(1, lit(1)))
			y := block(api.Stmt{Kind: api.OrElse, A: api.Expr{Args: no}, B: api.Expr{Args: no}, Body: b, Else: a}, set(1, api.Expr{Op: api.Lit, N: 1, Args: no}))
			if !code.Same(x, y) || !code.Same(y, x) || !code.Same(code.Copy(x), y) || !code.Same(x, code.Copy(y)) {
				t.Error("not the same")
			}
			if code.Cost(x) != code.Cost(y) || code.Depth(x) != code.Depth(y) || !code.May(x, 0) || !code.May(y, 0) {
				t.Error("not alike")
			}
		}
	}
}

// P5.2: a copy is the same to the last, whatever it is of, and shares no memory with it, in no list, nor in the room behind one.
func TestP5_2Copy(t *testing.T) {
	for _, tx := range append(odd(), rich()) {
		c := code.Copy(tx)
		if shown(c) != shown(tx) || !reflect.DeepEqual(c, tx) {
			t.Fatalf("Copy of %s: %s", shown(tx), shown(c))
		}
	}
	a := rich()
	c := code.Copy(a)
	was := shown(a)
	scribble(c)
	if shown(a) != was || shown(c) == was {
		t.Fatal("the copy shares memory")
	}
	c = code.Copy(a)
	scribble(a)
	if shown(c) != was {
		t.Fatal("the copy shares memory")
	}
}

// scribble writes over everything in a transaction, and behind the end of each list.
func scribble(tx []api.Stmt) {
	stmts, exprs := places(tx)
	for _, e := range exprs {
		behind := append(e.Args, lit(1000))
		behind[0].N++
		e.N, e.Op = 99, 99
	}
	for _, s := range stmts {
		s.Kind, s.To = 200, 300
		for _, in := range [][]api.Stmt{s.Body, s.Else} {
			behind := append(in, leave(lit(2000)))
			behind[0].To++
		}
	}
}

// R1: what is handed in stays, also behind the ends of its lists.
func TestR1Stays(t *testing.T) {
	for _, tx := range append(odd(), rich()) {
		behind := append(tx, leave(lit(4)))
		was := shown(behind)
		code.Cost(tx)
		code.Count(tx)
		code.Depth(tx)
		code.May(tx, 2)
		code.Same(tx, behind)
		code.Copy(tx)
		if shown(behind) != was {
			t.Fatalf("%s became %s", was, shown(behind))
		}
	}
}
