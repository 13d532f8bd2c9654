package code_test

import (
	"slices"
	"testing"

	"seesaw/api"
	"seesaw/code"
)

// P5.3: what may be may be later, too; so may each block of it, and what it, or a block, begins by.
func TestP5_3(t *testing.T) {
	for n := range api.MaxTx {
		for _, tx := range mays(n) {
			for later := n; later < api.MaxTx; later++ {
				for _, b := range blocks(tx) {
					for i := range len(b) + 1 {
						allowed(t, b[:i], later)
					}
				}
			}
		}
	}
}

// P5.3: earlier it may be just if it asks nothing of what is not returned yet.
func TestP5_3Earlier(t *testing.T) {
	for n := range api.MaxTx {
		asking, not := 0, 0
		for _, tx := range mays(n) {
			for earlier := range n {
				if !may(tx, earlier) {
					asking++
					refused(t, tx, earlier)
				} else {
					not++
					allowed(t, tx, earlier)
				}
			}
		}
		if n > 0 && (asking < 30 || not < 30) {
			t.Fatal("too few", n, asking, not)
		}
	}
}

// more are transactions that may be, of as many statements as there may be or one less, or of the greatest cost or one less, or both.
func more() [][]api.Stmt {
	var l [][]api.Stmt
	for _, cost := range []int{api.MaxCost - 2, api.MaxCost - 1, api.MaxCost} {
		tx := costing(cost)
		l = append(l, tx)
		for many := api.MaxStmts - 2; many <= api.MaxStmts; many++ {
			// Statements of a block that costs less than the other one cost nothing more.
			in := either(lit(1), costing(cost-1), nil)
			in.Else = retries(many - len(all(block(in))))
			l = append(l, block(in), retries(many), append(retries(many-2), loop(lit(1), retry())))
		}
	}
	return l
}

// P5.4: with a Retry more at its end it may be, just if statements and cost are not too many; so it is with what else costs no more.
func TestP5_4(t *testing.T) {
	none, cheap, both := 0, 0, 0
	for n := range api.MaxTx {
		for _, tx := range append(mays(n), more()...) {
			allowed(t, tx, n)
			stmts, cost := len(all(tx))+1 <= api.MaxStmts, told(price(tx))+1 <= api.MaxCost
			for _, s := range []api.Stmt{retry(), orElse(nil, nil)} {
				if with := append(slices.Clone(tx), s); stmts && cost {
					allowed(t, with, n)
				} else {
					refused(t, with, n)
				}
			}
			switch {
			case !stmts && !cost:
				both++
			case !cost:
				cheap++
			case !stmts:
				none++
			}
		}
	}
	if none < 10 || cheap < 10 || both < 5 {
		t.Fatal("too few", none, cheap, both)
	}
}

// some are transactions of any kind, and some that may be.
func some() [][]api.Stmt { return append(odd(), mays(3)[:100]...) }

// P5.5: the cost of two, one behind the other, is the sum of both, as far as it is told; as are statements and expressions, and the greater depth.
func TestP5_5Behind(t *testing.T) {
	l := some()
	for _, a := range l {
		for _, b := range l {
			both := append(slices.Clone(a), b...)
			if c := code.Cost(both); c != min(code.Cost(a)+code.Cost(b), api.MaxCost+1) {
				t.Fatalf("Cost of %s behind %s: %d", shown(b), shown(a), c)
			}
			n, m := code.Count(a)
			k, j := code.Count(b)
			if x, y := code.Count(both); x != n+k || y != m+j {
				t.Fatalf("Count of %s behind %s: %d, %d", shown(b), shown(a), x, y)
			}
			if d := code.Depth(both); d != max(code.Depth(a), code.Depth(b)) {
				t.Fatalf("Depth of %s behind %s: %d", shown(b), shown(a), d)
			}
		}
	}
	for cost := range api.MaxCost + 10 {
		costs(t, append(costing(cost), costing(api.MaxCost-min(cost, api.MaxCost))...), min(max(cost, api.MaxCost), api.MaxCost+1))
	}
}

// P5.5: what is within an OrElse costs no less than within an If, and as much just if one block is empty, or it is not told any more; which one stands first is one.
func TestP5_5Both(t *testing.T) {
	l := some()
	for _, a := range l {
		for _, b := range l {
			both, one := code.Cost(block(orElse(a, b))), code.Cost(block(either(lit(1), a, b)))
			if both < one || (both == one) != (len(a) == 0 || len(b) == 0 || one > api.MaxCost) {
				t.Fatalf("%s and %s: %d, %d", shown(a), shown(b), both, one)
			}
			costs(t, block(orElse(b, a)), both)
			costs(t, block(either(lit(1), b, a)), one)
			costs(t, block(orElse(a, b)), min(1+code.Cost(a)+code.Cost(b), api.MaxCost+1))
			costs(t, block(either(lit(0), a, b)), min(1+max(code.Cost(a), code.Cost(b)), api.MaxCost+1))
		}
	}
}

// P5.5: a Loop's Body counts MaxTurns times, as if it stood there so often.
func TestP5_5Turns(t *testing.T) {
	for _, a := range some() {
		costs(t, block(loop(lit(1), a...)), min(1+api.MaxTurns*code.Cost(a), api.MaxCost+1))
		costs(t, block(loop(lit(0), a...)), code.Cost(append(retries(1), slices.Repeat(a, api.MaxTurns)...)))
	}
}

// P5.6: a copy is the same; Same may be turned about, and goes on: what is the same is the same as the others.
func TestP5_6Copy(t *testing.T) {
	l := some()
	for i, a := range l {
		c := code.Copy(a)
		if !code.Same(a, c) || !code.Same(c, a) || !code.Same(code.Copy(c), a) {
			t.Fatalf("Copy of %s: %s", shown(a), shown(c))
		}
		for _, b := range l[i:] {
			if is := code.Same(a, b); is != code.Same(b, a) || is != code.Same(c, b) || is != (shown(a) == shown(b)) {
				t.Fatalf("%s and %s: %v", shown(a), shown(b), is)
			}
		}
	}
}

// alike is the same, with lists of nothing where there is none, and none where there are some.
func alike(tx []api.Stmt) []api.Stmt {
	turned := func(e api.Expr) api.Expr {
		if e.Args == nil {
			e.Args = []api.Expr{}
		} else if len(e.Args) == 0 {
			e.Args = nil
		}
		return e
	}
	var l []api.Stmt
	if tx == nil {
		l = block()
	}
	for _, s := range tx {
		s.A, s.B, s.Body, s.Else = turned(s.A), turned(s.B), alike(s.Body), alike(s.Else)
		l = append(l, s)
	}
	return l
}

// P5.6: what is the same costs the same, has as much, is as deep, and may be just if the other one may.
func TestP5_6Alike(t *testing.T) {
	for _, a := range some() {
		for _, b := range [][]api.Stmt{code.Copy(a), alike(a), alike(alike(a))} {
			if !code.Same(a, b) || !code.Same(b, a) {
				t.Fatalf("%s and %s", shown(a), shown(b))
			}
			costs(t, b, code.Cost(a))
			n, m := code.Count(a)
			counts(t, b, n, m, code.Depth(a))
			for n := -1; n <= api.MaxTx; n++ {
				if code.May(a, n) != code.May(b, n) {
					t.Fatalf("%s in %d: %v", shown(a), n, code.May(a, n))
				}
			}
		}
	}
}

// reader makes transactions of bytes, as long as there are some.
type reader struct{ s string }

// next is the next byte; 0: there is none.
func (r *reader) next() int {
	if r.s == "" {
		return 0
	}
	b := r.s[0]
	r.s = r.s[1:]
	return int(b)
}

// expr is an expression, none or whole or neither.
func (r *reader) expr(in int) api.Expr {
	e := api.Expr{}
	switch b := r.next(); {
	case b < 16 || in == 0:
		return e
	case b < 32:
		e = api.Expr{Op: uint8(r.next()) % 10, N: int64(int8(r.next())) / 16}
	case b < 128:
		return api.Expr{Op: api.Lit + uint8(b)%3, N: int64(b) % 6}
	default:
		e.Op = api.Add + uint8(b)%5
	}
	for range 2 - r.next()%64/63 {
		e.Args = append(e.Args, r.expr(in-1))
	}
	return e
}

// block is a block of statements, shaped or not.
func (r *reader) block(in int) []api.Stmt {
	var l []api.Stmt
	for range r.next() % 6 {
		s := api.Stmt{Kind: uint8(r.next()) % 9}
		what, _ := asked(s.Kind)
		if r.next() == 255 {
			what = "TABbe"
		}
		for _, letter := range what {
			switch {
			case letter == 'T':
				s.To = r.next()%9 - r.next()%2
			case letter == 'A':
				s.A = r.expr(7)
			case letter == 'B':
				s.B = r.expr(7)
			case letter == 'b' && in > 0:
				s.Body = r.block(in - 1)
			case letter == 'e' && in > 0:
				s.Else = r.block(in - 1)
			}
		}
		l = append(l, s)
	}
	return l
}

// R1: whatever transactions fuzzing comes to: each call answers what the chapter's words say.
func FuzzCode(f *testing.F) {
	f.Add("", 0)
	f.Add("\x02\x02\x00\x01\x00\x40\x04\x00\x40\x01\x06\x00\x00", 0)
	f.Add("\x01\x05\x00\x80\x00\x40\x41\x01\x05\x00\x40\x01\x05\x00\x40\x05\x06\x00\x06\x00\x06\x00\x06\x00\x06\x00", 5)
	f.Fuzz(func(t *testing.T, s string, n int) {
		r := &reader{s: s}
		a, b := r.block(8), r.block(8)
		for _, tx := range [][]api.Stmt{a, b, append(slices.Clone(a), b...)} {
			costs(t, tx, told(price(tx)))
			counts(t, tx, len(all(tx)), nodes(tx), deep(tx))
			for _, n := range []int{n, 0, api.MaxTx - 1} {
				if may(tx, n) {
					allowed(t, tx, n)
				} else {
					refused(t, tx, n)
				}
			}
			if c := code.Copy(tx); shown(c) != shown(tx) || !code.Same(c, tx) || !code.Same(alike(tx), tx) {
				t.Fatalf("Copy of %s: %s", shown(tx), shown(c))
			}
		}
		if code.Same(a, b) != (shown(a) == shown(b)) || code.Same(a, b) != code.Same(b, a) {
			t.Fatalf("%s and %s: %v", shown(a), shown(b), code.Same(a, b))
		}
	})
}
