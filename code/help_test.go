package code_test

import (
	"math/big"
	"slices"
	"strconv"
	"strings"
	"testing"

	"seesaw/api"
	"seesaw/code"
	"seesaw/expr"
	"seesaw/sample"
)

// Short names of what is made for tests.
var (
	lit, local, got, of = sample.Lit, sample.Local, sample.Got, sample.Of
	set, read, write    = sample.Set, sample.Read, sample.Write
	either, loop        = sample.If, sample.Loop
	retry, orElse       = sample.Retry, sample.OrElse
	leave, block        = sample.Return, sample.Block
	retries, costing    = sample.Retries, sample.Costing
)

// plain are statements of each Kind, with just what it asks, and nothing in their blocks.
func plain() []api.Stmt {
	return block(set(3, lit(5)), read(4, local(2)), write(lit(0), local(1)), either(local(7), nil, nil), loop(lit(3)), retry(), orElse(nil, nil), leave(lit(-9)))
}

// asked are, a letter each, what each Kind asks: To, A, B, Body, Else.
func asked(kind uint8) (string, bool) {
	l := []string{"TA", "TA", "AB", "Abe", "Ab", "", "be", "A"}
	if kind < 1 || int(kind) > len(l) {
		return "", false
	}
	return l[kind-1], true
}

// wraps put a block into a statement, in each way that there is.
func wraps() []func(in []api.Stmt) api.Stmt {
	return []func(in []api.Stmt) api.Stmt{
		func(in []api.Stmt) api.Stmt { return either(lit(1), in, nil) },
		func(in []api.Stmt) api.Stmt { return either(lit(1), nil, in) },
		func(in []api.Stmt) api.Stmt { return loop(lit(2), in...) },
		func(in []api.Stmt) api.Stmt { return orElse(in, nil) },
		func(in []api.Stmt) api.Stmt { return orElse(nil, in) },
	}
}

// nest is a block, so many deep, with what is handed in as the innermost one; which says how each is put into the next one.
func nest(deep int, in []api.Stmt, which func(at int) int) []api.Stmt {
	for at := range deep - 1 {
		in = block(wraps()[which(at)](in))
	}
	return in
}

// sized is an expression of so many expressions (an odd number), so many in a row at most.
func sized(many, most int) api.Expr {
	if many == 1 {
		return local(6)
	}
	first := min(many-2, 1<<(most-1)-1)
	return of(api.Sub, sized(first, most-1), sized(many-1-first, most-1))
}

// sizes are expressions, of so many in all.
func sizes(many int) []api.Expr {
	var l []api.Expr
	for many > 0 {
		n := min(many, 1<<api.MaxNest-1)
		n -= 1 - n%2
		l = append(l, sized(n, api.MaxNest))
		many -= n
	}
	return l
}

// all are the statements of all blocks.
func all(tx []api.Stmt) []api.Stmt {
	l := slices.Clone(tx)
	for i := 0; i < len(l); i++ {
		l = append(append(l, l[i].Body...), l[i].Else...)
	}
	return l
}

// blocks are a transaction and all blocks in it.
func blocks(tx []api.Stmt) [][]api.Stmt {
	l := [][]api.Stmt{tx}
	for _, s := range all(tx) {
		l = append(l, s.Body, s.Else)
	}
	return l
}

// nodes are how many expressions stand there.
func nodes(tx []api.Stmt) int {
	n := 0
	for _, s := range all(tx) {
		for _, e := range []api.Expr{s.A, s.B} {
			if e.Op != 0 {
				n += expr.Count(e)
			}
		}
	}
	return n
}

// deep is how deep it is, block by block.
func deep(tx []api.Stmt) int {
	most := 0
	for _, s := range tx {
		for _, in := range [][]api.Stmt{s.Body, s.Else} {
			if len(in) > 0 {
				most = max(most, deep(in))
			}
		}
	}
	return most + 1
}

// price is the cost in numbers without end.
func price(tx []api.Stmt) *big.Int {
	sum := big.NewInt(int64(len(tx)))
	for _, s := range tx {
		body, other := price(s.Body), price(s.Else)
		switch s.Kind {
		case api.If:
			if body.Cmp(other) < 0 {
				body = other
			}
			sum.Add(sum, body)
		case api.Loop:
			sum.Add(sum, body.Mul(body, big.NewInt(8)))
		case api.OrElse:
			sum.Add(sum, body.Add(body, other))
		}
	}
	return sum
}

// told is a cost as it is told.
func told(cost *big.Int) int {
	if cost.Cmp(big.NewInt(2000)) > 0 {
		return 2001
	}
	return int(cost.Int64())
}

// none tells whether an expression is none.
func none(e api.Expr) bool { return e.Op == 0 && e.N == 0 && len(e.Args) == 0 }

// fits is, by the chapter's words one behind the other, whether a statement is shaped.
func fits(s api.Stmt, n int) bool {
	what, is := asked(s.Kind)
	if !is || s.To < 0 || s.To > 7 {
		return false
	}
	for _, x := range []struct {
		letter    string
		may, none bool
	}{
		{"T", true, s.To == 0},
		{"A", expr.May(s.A, n), none(s.A)},
		{"B", expr.May(s.B, n), none(s.B)},
		{"b", true, len(s.Body) == 0},
		{"e", true, len(s.Else) == 0},
	} {
		if strings.Contains(what, x.letter) && !x.may || !strings.Contains(what, x.letter) && !x.none {
			return false
		}
	}
	return true
}

// may is, by the chapter's words, whether a transaction may be.
func may(tx []api.Stmt, n int) bool {
	l := all(tx)
	for _, s := range l {
		if !fits(s, n) {
			return false
		}
	}
	return n >= 0 && n <= 5 && len(l) <= 40 && nodes(tx) <= 300 && deep(tx) <= 6 && told(price(tx)) <= 2000
}

// exprShown is an expression as a text that unlike ones have not in common.
func exprShown(e api.Expr) string {
	var b strings.Builder
	b.WriteString(strconv.Itoa(int(e.Op)) + ":" + strconv.FormatInt(e.N, 10))
	if len(e.Args) > 0 {
		b.WriteString("(")
		for _, a := range e.Args {
			b.WriteString(exprShown(a) + " ")
		}
		b.WriteString(")")
	}
	return b.String()
}

// shown is a transaction as a text that unlike ones have not in common; a list of nothing and no list are the same.
func shown(tx []api.Stmt) string {
	var b strings.Builder
	for _, s := range tx {
		b.WriteString("{" + strconv.Itoa(int(s.Kind)) + " " + strconv.Itoa(s.To) + " A" + exprShown(s.A) + " B" + exprShown(s.B))
		b.WriteString(" Body[" + shown(s.Body) + "] Else[" + shown(s.Else) + "]}")
	}
	return b.String()
}

// mays are many transactions that may be, as the n-th one.
func mays(n int) [][]api.Stmt {
	next := sample.Noise(uint64(n) + 1)
	l := [][]api.Stmt{nil, {}, plain(), retries(api.MaxStmts), retries(api.MaxStmts - 1), costing(api.MaxCost), costing(api.MaxCost - 1)}
	for len(l) < 300 {
		tx := sample.Stmts(next, n, 2+next(4), 1+next(api.MaxNest))
		if may(tx, n) {
			l = append(l, tx)
		}
	}
	return l
}

// odd are transactions of any kind, that may be or not, no two of them the same.
func odd() [][]api.Stmt {
	l := [][]api.Stmt{
		nil, {{}}, {{}, {}}, {{Kind: 9}}, {{Kind: 255, To: -1}}, {{To: 1}}, {{To: -1}}, {{To: 1 << 32}},
		{{A: api.Expr{N: 1}}}, {{B: api.Expr{N: 1}}}, {{A: lit(1)}}, {{B: lit(1)}}, {{A: api.Expr{Args: []api.Expr{{}}}}}, {{B: api.Expr{Args: []api.Expr{{}}}}},
		{{Body: block(api.Stmt{})}}, {{Else: block(api.Stmt{})}}, {{Body: retries(1)}}, {{Else: retries(1)}}, {{Body: retries(1), Else: retries(1)}}, {{Body: retries(2)}},
		{{Body: block(api.Stmt{Body: retries(1)})}}, {{Body: block(api.Stmt{Else: retries(1)})}}, {{Body: retries(1)}, {Kind: api.Retry}},
		plain(), append(plain(), plain()...), retries(41), costing(2001), costing(1 << 40),
		{{Kind: api.Retry, Body: retries(3), Else: retries(4)}}, {{Kind: api.Loop, Body: retries(3), Else: retries(4)}},
		{either(lit(1), retries(3), retries(4))}, {orElse(retries(3), retries(4))}, {orElse(retries(4), retries(3))},
		{{Kind: api.Set, To: 8, A: got(6), B: local(8), Body: plain(), Else: plain()}},
	}
	next := sample.Noise(77)
	for range 100 {
		tx := append(sample.Stmts(next, 3, 3, 4), plain()[next(8)], retry(), plain()[next(8)])
		if !slices.ContainsFunc(l, func(b []api.Stmt) bool { return shown(b) == shown(tx) }) {
			l = append(l, tx)
		}
	}
	for many := 7; many <= 10; many++ {
		for w := range wraps() {
			l = append(l, nest(many, retries(1), func(int) int { return w }))
		}
	}
	return l
}

// costs tells that Cost tells just this.
func costs(t testing.TB, tx []api.Stmt, want int) {
	t.Helper()
	if c := code.Cost(tx); c != want {
		t.Fatalf("Cost of %s: %d; want %d", shown(tx), c, want)
	}
}

// counts tells that Count and Depth tell just these.
func counts(t testing.TB, tx []api.Stmt, stmts, exprs, deep int) {
	t.Helper()
	if n, m := code.Count(tx); n != stmts || m != exprs {
		t.Fatalf("Count of %s: %d, %d; want %d, %d", shown(tx), n, m, stmts, exprs)
	}
	if d := code.Depth(tx); d != deep {
		t.Fatalf("Depth of %s: %d; want %d", shown(tx), d, deep)
	}
}

// allowed tells that a transaction may be.
func allowed(t testing.TB, tx []api.Stmt, n int) {
	t.Helper()
	if !code.May(tx, n) {
		t.Fatalf("%s may not be the transaction %d", shown(tx), n)
	}
}

// refused tells that a transaction may not be.
func refused(t testing.TB, tx []api.Stmt, n int) {
	t.Helper()
	if code.May(tx, n) {
		t.Fatalf("%s may be the transaction %d", shown(tx), n)
	}
}

// within are a transaction of just this statement, and those that have it in a block, first or last.
func within(s api.Stmt) [][]api.Stmt {
	l := [][]api.Stmt{{s}, {s, retry()}, {retry(), s}, {retry(), s, retry()}}
	for _, wrap := range wraps() {
		l = append(l, block(wrap(block(s))), block(retry(), wrap(block(set(0, lit(1)), s)), leave(lit(0))))
		for _, outer := range wraps() {
			l = append(l, block(outer(block(wrap(block(s))))))
		}
	}
	return l
}

// sound tells that a statement may be, wherever it stands, in each transaction from n on.
func sound(t testing.TB, s api.Stmt, n int) {
	t.Helper()
	for _, tx := range within(s) {
		for at := n; at < api.MaxTx; at++ {
			allowed(t, tx, at)
		}
	}
}

// broken tells that a statement may not be, wherever it stands, in each transaction up to n.
func broken(t testing.TB, s api.Stmt, n int) {
	t.Helper()
	for _, tx := range within(s) {
		for at := -1; at <= n; at++ {
			refused(t, tx, at)
		}
	}
}
