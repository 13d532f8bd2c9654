package interp_test

import (
	"slices"
	"testing"

	"seesaw/api"
	"seesaw/code"
	"seesaw/expr"
	"seesaw/interp"
	"seesaw/sample"
)

// finish goes on to where it Ends, or Retries, and hands back how often it asked ahead of that.
func finish(t testing.TB, m *interp.Machine, answer answers) int {
	t.Helper()
	asked := 0
	for {
		if m.Steps() > api.MaxCost {
			t.Fatal("it does not end")
		}
		switch a := m.Next(); a.Kind {
		case interp.Inner:
			hands(t, "Step", m.Step(), api.OK)
		case interp.Asks:
			hands(t, "Answer", m.Answer(answer(asked, a.At)), api.OK)
			asked++
		default:
			return asked
		}
	}
}

// end is what a transaction's machine tells at its end, but for how many steps there were.
func end(t testing.TB, r run, tx []api.Stmt) moment {
	t.Helper()
	m := begun(t, tx, r.vars, r.got...)
	finish(t, m, r.answer)
	told := now(m)
	told.steps = 0
	return told
}

// alike tells that two transactions end the same, and hands back how.
func alike(t testing.TB, r run, a, b []api.Stmt) moment {
	t.Helper()
	x, y := end(t, r, a), end(t, r, b)
	if x != y {
		t.Fatalf("%+v\nends with %+v,\n%+v\nwith %+v", a, x, b, y)
	}
	return x
}

// full is a transaction that takes as many steps as it costs.
func full(cost int) []api.Stmt {
	if cost < 9 {
		return slices.Repeat(block(set(1, of(api.Add, local(1), lit(1)))), cost)
	}
	return append(full((cost-1)%api.MaxTurns), loop(lit(9), full((cost-1)/api.MaxTurns)...))
}

// P9.3: whatever is answered: in as many steps as it costs at most it Ends, or Retries; with some it takes just so many.
func TestP9_3(t *testing.T) {
	just := 0
	for _, r := range runs(61, 2000) {
		for seed := range uint64(3) {
			m := begun(t, r.tx, r.vars, r.got...)
			finish(t, m, noise(seed))
			cost := code.Cost(r.tx)
			if m.Steps() > cost {
				t.Fatalf("%d steps; the cost is %d", m.Steps(), cost)
			}
			if m.Steps() == cost {
				just++
			}
		}
	}
	if just < 100 {
		t.Fatal("too few", just)
	}
	for _, cost := range []int{0, 1, 8, 9, 10, 17, 100, 999, api.MaxCost - 1, api.MaxCost} {
		tx := full(cost)
		if n := code.Cost(tx); n != cost {
			t.Fatal(n, cost)
		}
		m := begun(t, tx, 1)
		finish(t, m, memory(1))
		if m.Steps() != cost {
			t.Fatalf("%d steps; want %d", m.Steps(), cost)
		}
	}
	both := block(orElse(append(full(900), retry()), full(900))) // both blocks of an OrElse
	m := begun(t, both, 1)
	finish(t, m, memory(1))
	if m.Steps() != code.Cost(both) {
		t.Fatal(m.Steps(), code.Cost(both))
	}
}

// parts are what stands ahead of an OrElse, or a Loop, what it has, and what stands behind.
type parts struct{ ahead, body, other, behind []api.Stmt }

// some are any such parts, of which a Body comes to Retry often.
func (parts) some(next sample.Next, n int) parts {
	p := parts{sample.Lively(next, n, 3, 2), sample.Lively(next, n, 3, 3), sample.Stmts(next, n, 2, 3), sample.Stmts(next, n, 2, 2)}
	switch next(3) {
	case 0:
		p.body = append(p.body, retry())
	case 1:
		p.body = append(p.body, loop(local(int64(next(3))), either(local(int64(next(3))), block(retry()), nil)))
	}
	return p
}

// with are the parts with a block between ahead and behind, in a statement, or as they are.
func (p parts) with(in []api.Stmt, around func([]api.Stmt) api.Stmt) []api.Stmt {
	tx := slices.Concat(p.ahead, in, p.behind)
	if around != nil {
		return block(around(tx))
	}
	return tx
}

// arounds are ways in which these parts stand: alone, in each statement, and in the Body of an OrElse which goes on otherwise.
func arounds() []func([]api.Stmt) api.Stmt {
	l := []func([]api.Stmt) api.Stmt{nil, func(in []api.Stmt) api.Stmt {
		return orElse(in, block(write(lit(0), lit(-7)), read(1, lit(1)), leave(local(1))))
	}}
	for _, w := range wraps() {
		l = append(l, w.around)
	}
	return l
}

// P9.4: an OrElse whose Body comes to Retry is as its Else alone, and what is behind it; one whose Body does not is as its Body, and what is behind it; wherever it stands.
func TestP9_4(t *testing.T) {
	next := sample.Noise(9)
	retried, not := 0, 0
	for seed := range uint64(4000) {
		r := run{vars: 1 + next(4), got: []int64{2, -1}, answer: memory(seed)}
		p := parts{}.some(next, len(r.got))
		alone := slices.Concat(p.ahead, p.body)
		around := arounds()[next(len(arounds()))]
		tx := p.with(block(orElse(p.body, p.other)), around)
		if !code.May(tx, len(r.got)) || !code.May(alone, len(r.got)) {
			continue
		}
		is := p.body
		if end(t, r, alone).ask == retries {
			retried++
			is = p.other
		} else {
			not++
		}
		alike(t, r, tx, p.with(is, around))
	}
	if retried < 500 || not < 500 {
		t.Fatal("too few", retried, not)
	}
}

// P9.4: what was read in a Body that came to Retry is asked for anew in its Else; a Body that never comes to Retry makes an Else be nothing, whatever it is.
func TestP9_4Reads(t *testing.T) {
	tx := block(orElse(block(read(1, lit(1)), write(lit(2), local(1)), read(2, lit(2)), retry()), block(read(1, lit(1)), read(2, lit(2)), leave(local(2)))))
	m := begun(t, tx, 3)
	row(t, m, inner, asks(1), inner, inner, inner, asks(1), asks(2), ends(102))
	keeps(t, m, 0, 101, 102)
	wrote(t, m)
	for _, r := range runs(71, 300) {
		body := block(set(1, lit(3)), write(lit(0), lit(4)))
		for _, other := range [][]api.Stmt{r.tx, nil, block(retry()), block(leave(lit(-5)))} {
			if tx := block(orElse(body, other), leave(local(1))); code.May(tx, len(r.got)) {
				alike(t, r, tx, append(slices.Clone(body), leave(local(1))))
			}
		}
	}
}

// P9.5: a Loop is as its Body so often, one behind the other: A times, none below 0, MaxTurns above; by the same answers, of which there are as many.
func TestP9_5(t *testing.T) {
	next := sample.Noise(10)
	seen := map[int]int{}
	for seed := range uint64(6000) {
		r := run{vars: 1 + next(4), got: []int64{2, -1, 5}, answer: noise(seed)}
		n := len(r.got)
		p := parts{ahead: sample.Lively(next, n, 3, 2), body: sample.Stmts(next, n, 2, 2), behind: sample.Stmts(next, n, 2, 2)}
		a := of(api.Add, sample.Expr(next, n, 3), lit(int64(next(14)-3)))
		around := arounds()[next(len(arounds()))]
		m := begun(t, p.ahead, r.vars, r.got...)
		finish(t, m, r.answer)
		own := m.Locals()
		x, e := expr.Eval(a, own[:], r.got)
		if e != api.OK {
			t.Fatal(e)
		}
		looped := p.with(block(loop(a, p.body...)), around)
		often := p.with(slices.Repeat(p.body, turns(x)), around)
		if !code.May(looped, n) || !code.May(often, n) {
			continue
		}
		alike(t, r, looped, often)
		seen[turns(x)]++
	}
	for k := range api.MaxTurns + 1 {
		if seen[k] < 50 {
			t.Fatal("too few", seen)
		}
	}
}

// P9.6: what it asks for is a variable that there is, and none that it has written; what is written in a Body that came to Retry is none.
func TestP9_6(t *testing.T) {
	asked, had := 0, 0
	for i, r := range runs(81, 3000) {
		m := begun(t, r.tx, r.vars, r.got...)
		for {
			a := m.Next()
			if a.Kind == interp.Asks {
				asked++
				has := m.Writes()
				if len(has) > 0 {
					had++
				}
				if a.At < 0 || a.At >= r.vars || slices.ContainsFunc(has, func(p api.Pair) bool { return p.At == a.At }) {
					t.Fatalf("%+v of %d, with %v", a, r.vars, has)
				}
			}
			if !on(t, m, int64(i)*7-3) {
				break
			}
		}
	}
	if asked < 1000 || had < 300 {
		t.Fatal("too few", asked, had)
	}
}

// P9.6: whoever has written all of them asks for none.
func TestP9_6All(t *testing.T) {
	for _, r := range runs(91, 1000) {
		vars := min(r.vars, 5)
		var tx []api.Stmt
		for v := range vars {
			tx = append(tx, write(lit(int64(v)), lit(int64(v))))
		}
		tx = append(tx, r.tx...)
		if !code.May(tx, len(r.got)) {
			continue
		}
		m := begun(t, tx, vars, r.got...)
		if n := finish(t, m, r.answer); n > 0 {
			t.Fatalf("it asked %d times: %+v", n, tx)
		}
	}
}

// P9.7: by the same answers it comes to the same; so does one that is a copy, of a copy, anew at each step.
func TestP9_7(t *testing.T) {
	for _, r := range runs(101, 1000) {
		l := plain(r.tx, r.vars, r.got, r.answer)
		for range 2 {
			over(t, begun(t, r.tx, r.vars, r.got...), l, r.answer)
		}
		m := begun(t, r.tx, r.vars, r.got...)
		for at := range l {
			m = m.Copy()
			holds(t, m, l, at, at+1, r.answer)
		}
	}
}

// P9.7: a copy of each step goes on as the machine would have, when the machine is at its end already.
func TestP9_7Copies(t *testing.T) {
	for _, r := range runs(111, 300) {
		l := plain(r.tx, r.vars, r.got, r.answer)
		var copies []*interp.Machine
		m := begun(t, r.tx, r.vars, r.got...)
		for at := range l {
			copies = append(copies, m.Copy())
			holds(t, m, l, at, at+1, r.answer)
		}
		for at, c := range copies {
			holds(t, c, l, at, len(l), r.answer)
		}
	}
}

// P9.1 to P9.7, R1: whatever transactions, and answers, fuzzing comes to: each step is what the chapter's words say; what may not be is refused.
func FuzzInterp(f *testing.F) {
	f.Add("")
	f.Add("\x01\x02\x03\x06\x03\x04\x01\x02\x00\x05\x06\x02\x03\x01\x00\x07\x01\x02\x03\x04\x05\x06\x07\x02")
	f.Add("\x02\x05\x01\x06\x02\x06\x01\x02\x05\x01\x06\x02\x01\x05\x06\x07\x01\x02\x03\x04\x04\x03\x02\x01\x06\x05")
	f.Fuzz(func(t *testing.T, text string) {
		next := sample.Bytes(text)
		n, vars := next(api.MaxTx), next(api.MaxVars+1)
		got := make([]int64, n)
		for i := range got {
			got[i] = int64(next(256) - 128)
		}
		tx := sample.Stmts(next, n+next(8)/7, 4, 1+next(api.MaxNest+1))
		switch {
		case vars == 0:
			refused(t, api.ErrArg, tx, vars, got...)
		case !code.May(tx, n):
			refused(t, api.ErrForm, tx, vars, got...)
		default:
			l := does(t, tx, vars, got, noise(uint64(len(text))))
			if steps := len(l) - 1; steps > code.Cost(tx) {
				t.Fatal(steps, code.Cost(tx))
			}
			does(t, tx, vars, got, func(k, at int) int64 { return int64(k + at) })
		}
	})
}
