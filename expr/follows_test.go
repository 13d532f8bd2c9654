package expr_test

import (
	"math"
	"testing"

	"seesaw/api"
	"seesaw/expr"
	"seesaw/sample"
)

// P4.3: what may be in the transaction n comes to a value, over MaxLocals locals and n values.
func TestP4_3(t *testing.T) {
	for n := range api.MaxTx {
		for i, e := range mays(n) {
			if !expr.May(e, n) {
				t.Fatalf("%s may not be in %d", shown(e), n)
			}
			locals, got := values(uint64(i), api.MaxLocals), values(uint64(i)+1000, n)
			v, ok := comesTo(e, locals, got)
			if !ok {
				t.Fatalf("%s over %v, %v", shown(e), locals, got)
			}
			evals(t, e, locals, got, v)
		}
	}
}

// P4.3: over fewer it comes to the same, just as long as what it asks is there.
func TestP4_3Fewer(t *testing.T) {
	for n := range api.MaxTx {
		for i, e := range mays(n) {
			for fewer := range api.MaxLocals + 1 {
				locals, got := values(uint64(i), fewer), values(uint64(i)+1000, max(0, n-fewer%3))
				if v, ok := comesTo(e, locals, got); ok {
					evals(t, e, locals, got, v)
				} else {
					refused(t, e, locals, got, api.ErrNone)
				}
			}
		}
	}
}

// P4.4: parts of what may be may be, in later transactions, too; Count is that of the parts, and one more.
func TestP4_4(t *testing.T) {
	for n := range api.MaxTx {
		for _, e := range mays(n) {
			many := 0
			for _, p := range parts(e) {
				many++
				of := 1
				for _, a := range p.Args {
					of += expr.Count(a)
				}
				if expr.Count(p) != of {
					t.Fatalf("Count of %s: %d; want %d", shown(p), expr.Count(p), of)
				}
				for later := n; later <= api.MaxTx; later++ {
					if !expr.Whole(p) || !expr.May(p, later) {
						t.Fatalf("%s, a part of %s, in %d", shown(p), shown(e), later)
					}
				}
			}
			if expr.Count(e) != many {
				t.Fatalf("Count of %s: %d; want %d", shown(e), expr.Count(e), many)
			}
		}
	}
}

// P4.4: of two parts, whichever, an operator makes what may be, just if both may be and it is not too deep.
func TestP4_4Together(t *testing.T) {
	for n := range api.MaxTx {
		l := mays(n)
		for i, a := range l {
			b := l[(i*7+1)%len(l)]
			e := of(operators()[i%5], a, b)
			want := max(deep(a), deep(b)) < api.MaxNest
			if expr.Whole(e) != want || expr.May(e, n) != want {
				t.Fatalf("%s: %v", shown(e), !want)
			}
		}
	}
}

// P4.5: Sub of Add of one number is what it was added to, of any values and of any expressions.
func TestP4_5Back(t *testing.T) {
	for _, x := range edges() {
		for _, y := range edges() {
			evals(t, of(api.Sub, of(api.Add, lit(x), lit(y)), lit(y)), nil, nil, x)
			evals(t, of(api.Sub, of(api.Add, lit(y), lit(x)), lit(y)), nil, nil, x)
			evals(t, of(api.Add, of(api.Sub, lit(x), lit(y)), lit(y)), nil, nil, x)
		}
	}
	next := sample.Noise(3)
	for range 1000 {
		e, f := may(next, 3, api.MaxNest-2), may(next, 3, api.MaxNest-2)
		locals, got := values(uint64(next(1000)), api.MaxLocals), values(uint64(next(1000)), 3)
		v, _ := comesTo(e, locals, got)
		evals(t, of(api.Sub, of(api.Add, e, f), f), locals, got, v)
	}
}

// P4.5: of Less, Less turned about, and Equal just one is 1, the others 0.
func TestP4_5One(t *testing.T) {
	next := sample.Noise(4)
	pairs := [][2]api.Expr{}
	for _, x := range edges() {
		for _, y := range edges() {
			pairs = append(pairs, [2]api.Expr{lit(x), lit(y)})
		}
	}
	for range 1000 {
		pairs = append(pairs, [2]api.Expr{may(next, 4, api.MaxNest-1), may(next, 4, api.MaxNest-1)})
	}
	for i, p := range pairs {
		locals, got := values(uint64(i), api.MaxLocals), values(uint64(i), 4)
		ones := 0
		for _, e := range []api.Expr{of(api.Less, p[0], p[1]), of(api.Less, p[1], p[0]), of(api.Equal, p[0], p[1])} {
			v, f := expr.Eval(e, locals, got)
			if v != 0 && v != 1 || f != api.OK {
				t.Fatalf("%s: %d, %v", shown(e), v, f)
			}
			ones += int(v)
		}
		if ones != 1 {
			t.Fatalf("%s, %s: %d", shown(p[0]), shown(p[1]), ones)
		}
	}
}

// P4.6: values that are apart by the number of variables mean the same variable; those that are apart by less do not.
func TestP4_6(t *testing.T) {
	for vars := 1; vars <= api.MaxVars+1; vars++ {
		for _, from := range []int64{math.MinInt64, -300, math.MaxInt64 - 600} {
			for x := from; x < from+300; x++ {
				n, e := expr.Variable(x, vars)
				if e != api.OK || n < 0 || n >= vars {
					t.Fatalf("Variable of %d among %d: %d, %v", x, vars, n, e)
				}
				means(t, x+int64(vars), vars, n)
				means(t, x+7*int64(vars), vars, n)
				for less := 1; less < vars; less++ {
					if m, _ := expr.Variable(x+int64(less), vars); m == n {
						t.Fatalf("Variable of %d and %d more among %d: %d", x, less, vars, n)
					}
				}
			}
		}
	}
	for _, vars := range []int{1<<31 + 1, 1 << 40, 1 << 62, math.MaxInt64} {
		for _, x := range edges() {
			if x < 0 {
				n, _ := expr.Variable(x, vars)
				means(t, x+int64(vars), vars, n)
			}
		}
	}
}

// read is an expression that bytes tell, whole or not: an Op, N, how many Args, and these; nothing, where there are none left.
func read(s string, in int) (api.Expr, string) {
	if len(s) < 3 || in == 0 {
		return api.Expr{}, s
	}
	e := api.Expr{Op: s[0] % 10, N: int64(int8(s[1])) / 8}
	many := int(s[2] % 5)
	if s[2] >= 64 { // mostly as it should be
		e.Op, e.N, many = api.Lit+s[0]%8, 0, 0
		if e.Op >= api.Add {
			many = 2
		} else {
			e.N = int64(s[1] % 6)
		}
	}
	s = s[3:]
	for range many {
		var a api.Expr
		a, s = read(s, in-1)
		e.Args = append(e.Args, a)
	}
	return e, s
}

// R1: whatever expression fuzzing comes to: each call answers what the chapter's words say.
func FuzzExpr(f *testing.F) {
	f.Add("\x00\x00\x00", 0, 0)
	f.Add("\x03\x00\x40\x00\x05\x40\x01\x02\x40", 8, 6)
	f.Add("\x04\x00\x02\x02\x05\x40\x01\x02\x40", 1, 1)
	f.Fuzz(func(t *testing.T, s string, many, n int) {
		e, rest := read(s, 9)
		other, _ := read(rest, 9)
		locals, got := values(1, many&15), values(2, n&7)
		whole := isWhole(e)
		if expr.Whole(e) != whole || expr.Count(e) != len(parts(e)) {
			t.Fatalf("%s: %v, %d", shown(e), !whole, expr.Count(e))
		}
		asked := false
		for _, p := range parts(e) {
			asked = asked || p.Op == api.Got && p.N >= int64(n)
		}
		if expr.May(e, n) != (whole && !asked) {
			t.Fatalf("%s in %d: %v", shown(e), n, expr.May(e, n))
		}
		if !whole {
			refused(t, e, locals, got, api.ErrForm)
		} else if v, ok := comesTo(e, locals, got); ok {
			evals(t, e, locals, got, v)
		} else {
			refused(t, e, locals, got, api.ErrNone)
		}
		if c := expr.Copy(e); shown(c) != shown(e) || !expr.Same(c, e) || expr.Same(e, other) != (shown(e) == shown(other)) {
			t.Fatalf("%s, %s, %s", shown(e), shown(c), shown(other))
		}
	})
}
