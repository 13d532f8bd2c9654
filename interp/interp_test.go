package interp_test

import (
	"fmt"
	"math"
	"slices"
	"testing"

	"seesaw/api"
	"seesaw/code"
	"seesaw/interp"
	"seesaw/sample"
)

// The chapter's examples.
func TestExamples(t *testing.T) {
	m := begun(t, block(read(1, lit(0)), write(lit(0), of(api.Add, local(1), lit(1))), leave(local(1))), 1)
	if a := m.Next(); a != asks(0) {
		t.Fatal(a)
	}
	hands(t, "Answer", m.Answer(5), api.OK)
	if a := m.Next(); a != inner {
		t.Fatal(a)
	}
	hands(t, "Step", m.Step(), api.OK)
	if a := m.Next(); a != ends(5) {
		t.Fatal(a)
	}
	wrote(t, m, pair(0, 6))

	row(t, begun(t, block(retry()), 1), retries)

	m = begun(t, block(orElse(block(write(lit(0), lit(1)), retry()), block(leave(lit(9))))), 1)
	row(t, m, inners(3, ends(9))...)
	wrote(t, m)
}

// P9.1: a machine at the beginning: no locals, nothing written, no step done, and what its first statement asks for.
func TestP9_1New(t *testing.T) {
	for _, x := range []struct {
		tx   []api.Stmt
		want interp.Ask
	}{
		{nil, ends(0)}, {block(), ends(0)},
		{block(set(1, lit(5))), inner}, {block(write(lit(0), lit(5))), inner}, {block(read(1, lit(0))), asks(0)},
		{block(either(lit(0), nil, nil)), inner}, {block(loop(lit(0))), inner}, {block(orElse(nil, nil)), inner},
		{block(retry()), retries}, {block(leave(lit(5))), ends(5)}, {block(leave(local(1))), ends(0)}, {block(leave(lit(0))), ends(0)},
		{block(orElse(block(retry()), nil)), inner}, {block(either(lit(1), block(leave(lit(4))), nil)), inner},
	} {
		for _, vars := range []int{1, 2, api.MaxVars} {
			same(t, begun(t, x.tx, vars), moment{x.want, locals{}, "[]", 0})
		}
	}
	same(t, begun(t, block(leave(got(1))), 1, 7, 8), moment{ends(8), locals{}, "[]", 0})
}

// P9.1: over 1 to MaxVars variables, with no other number of them; that is asked ahead of the transaction.
func TestP9_1Vars(t *testing.T) {
	bad := [][]api.Stmt{{{}}, {{Kind: 9}}, {leave(got(0))}, {set(8, lit(1))}, sample.Retries(api.MaxStmts + 1)}
	for vars := 1; vars <= api.MaxVars; vars++ {
		begun(t, block(read(0, lit(-1))), vars)
		row(t, begun(t, block(read(0, lit(-1))), vars), asks(vars-1), ends(0))
		for _, tx := range bad {
			refused(t, api.ErrForm, tx, vars)
		}
	}
	for _, vars := range []int{0, -1, api.MaxVars + 1, 1 << 40, math.MaxInt, math.MinInt} {
		refused(t, api.ErrArg, nil, vars)
		refused(t, api.ErrArg, block(leave(lit(1))), vars)
		refused(t, api.ErrArg, block(leave(got(0))), vars, 5)
		refused(t, api.ErrArg, nil, vars, make([]int64, api.MaxTx)...)
		for _, tx := range bad {
			refused(t, api.ErrArg, tx, vars)
		}
	}
}

// P9.1: the transaction may be just behind as many values as were returned; behind MaxTx of them there is none.
func TestP9_1Got(t *testing.T) {
	values := []int64{11, 12, 13, 14, 15, 16, 17}
	for n := range api.MaxTx {
		row(t, begun(t, nil, 1, values[:n]...), ends(0))
		for asked := range int64(api.MaxTx) {
			for _, in := range nests(leave(of(api.Add, got(asked), lit(1)))) {
				if asked < int64(n) {
					row(t, begun(t, in.tx, 1, values[:n]...), inners(in.steps, ends(values[asked]+1))...)
				} else {
					refused(t, api.ErrForm, in.tx, 1, values[:n]...)
				}
			}
		}
	}
	for n := api.MaxTx; n <= len(values); n++ {
		refused(t, api.ErrForm, nil, 1, values[:n]...)
		refused(t, api.ErrForm, block(leave(lit(1))), 1, values[:n]...)
	}
}

// P9.1: what may not be is refused, and what is at the limits, or was made by short rules, is refused just if it may not be.
func TestP9_1May(t *testing.T) {
	for _, tx := range sample.Bad() {
		refused(t, api.ErrForm, tx, 3, 1, 2)
	}
	for _, s := range []api.Stmt{{}, {Kind: 9}, {Kind: 255}, read(-1, lit(0)), {Kind: api.Retry, A: lit(1)}, {Kind: api.Set}, {Kind: api.Write, A: lit(1)}, {Kind: api.Loop, A: lit(1), Else: block(retry())}, leave(local(8))} {
		for _, in := range nests(s) {
			refused(t, api.ErrForm, in.tx, 3)
		}
	}
	begun(t, sample.Retries(api.MaxStmts), 3)
	begun(t, sample.Costing(api.MaxCost), 3)
	next := sample.Noise(4)
	may, not := 0, 0
	for range 2000 {
		n := next(api.MaxTx)
		tx := sample.Stmts(next, n+next(4)/3, 2+next(4), 1+next(api.MaxNest+2))
		if code.May(tx, n) {
			may++
			begun(t, tx, 2, make([]int64, n)...)
		} else {
			not++
			refused(t, api.ErrForm, tx, 2, make([]int64, n)...)
		}
	}
	if may < 200 || not < 200 {
		t.Fatal("too few", may, not)
	}
}

// P9.1: Step where it Asks, Ends or Retries, and Answer where it is Inner, Ends or Retries, again and again: ErrState, and nothing changed.
func TestP9_1State(t *testing.T) {
	ahead := block(set(1, lit(5)), write(lit(0), lit(6)), orElse(block(write(lit(1), lit(7)), retry()), block(write(lit(2), lit(8)))), orElse(block(write(lit(3), lit(9))), nil))
	for _, last := range [][]api.Stmt{{read(1, lit(4))}, {leave(lit(3))}, {retry()}, nil, {set(1, lit(2))}, {write(lit(1), lit(9))}, {read(2, lit(0))}, {orElse(nil, nil)}, {loop(lit(2))}, {either(lit(1), nil, nil)}, {orElse(block(leave(lit(4))), nil)}, {loop(lit(2), read(3, lit(5)))}} {
		tx := append(slices.Clone(ahead), last...)
		m := begun(t, tx, 6)
		for {
			for range 3 {
				refuses(t, m)
			}
			if !on(t, m, 5) {
				break
			}
		}
	}
}

// P9.1: Next asks nothing of the machine: told again and again it is the same, and nothing is done by it.
func TestP9_1NextStays(t *testing.T) {
	for _, r := range runs(21, 200) {
		m := begun(t, r.tx, r.vars, r.got...)
		for goes := true; goes; {
			was := now(m)
			for range 3 {
				same(t, m, was)
			}
			goes = on(t, m, 1)
		}
	}
}

// P9.1, P9.2: of any transactions, with any answers, each step is what the chapter's words say.
func TestP9_1Model(t *testing.T) {
	seen := map[uint8]int{}
	for _, r := range runs(1, 3000) {
		for _, one := range does(t, r.tx, r.vars, r.got, r.answer) {
			seen[one.ask.Kind]++
		}
	}
	for _, kind := range []uint8{interp.Inner, interp.Asks, interp.Ends, interp.Retries} {
		if seen[kind] < 300 {
			t.Fatal("too few", seen)
		}
	}
}

// P9.2: Writes rise, each variable once, over all levels that there are, and what was told stays as it was told.
func TestP9_2Writes(t *testing.T) {
	m := begun(t, block(write(lit(7), lit(70)), write(lit(2), lit(20)), orElse(block(write(lit(5), lit(50)), orElse(block(write(lit(2), lit(21)), write(lit(9), lit(90))), nil), write(lit(0), lit(1))), nil)), 10)
	var told []pairs
	for {
		told = append(told, m.Writes())
		if !on(t, m, 0) {
			break
		}
	}
	want := []string{"[]", "[{7 70}]", "[{2 20} {7 70}]", "[{2 20} {7 70}]", "[{2 20} {5 50} {7 70}]", "[{2 20} {5 50} {7 70}]", "[{2 21} {5 50} {7 70}]", "[{2 21} {5 50} {7 70} {9 90}]", "[{0 1} {2 21} {5 50} {7 70} {9 90}]"}
	if len(told) != len(want) {
		t.Fatal(told)
	}
	for i, l := range told {
		if fmt.Sprint(l) != want[i] {
			t.Fatalf("Writes, told behind %d steps: %v; want %s", i, l, want[i])
		}
	}
}

// P9.2, R1: what Writes told may be changed, and put to, and the machine is as it was, as it is where a copy of its locals is changed.
func TestP9_2WritesNew(t *testing.T) {
	m := begun(t, block(write(lit(1), lit(10)), write(lit(3), lit(30)), read(1, lit(1)), leave(local(1))), 5)
	steps(t, m, 2)
	was := now(m)
	l := m.Writes()
	for i := range l {
		l[i] = pair(4, -1)
	}
	_ = append(l, pair(0, 9))
	own := m.Locals()
	own[1] = 77
	same(t, m, was)
	steps(t, m, 1)
	same(t, m, moment{ends(10), locals{1: 10}, "[{1 10} {3 30}]", 3})
}

// P9.2: the locals, as they become, one by one, and as they are kept.
func TestP9_2Locals(t *testing.T) {
	m := begun(t, block(set(0, lit(1)), set(7, lit(8)), read(3, lit(0)), orElse(block(set(0, lit(2)), retry()), block(set(1, lit(9))))), 1)
	for _, want := range []locals{{}, {1}, {1, 7: 8}, {1, 3: -4, 7: 8}, {1, 3: -4, 7: 8}, {2, 3: -4, 7: 8}, {1, 3: -4, 7: 8}, {1, 9, 3: -4, 7: 8}} {
		keeps(t, m, want[:]...)
		on(t, m, -4)
	}
}

// P9.2: how many steps were done: Answers among them, a Retry too, ends of blocks and turns not, and nothing that was refused.
func TestP9_2Steps(t *testing.T) {
	m := begun(t, block(read(0, lit(0)), loop(lit(2), read(1, lit(1)), either(lit(1), block(set(2, lit(1))), nil)), orElse(block(retry()), nil), leave(lit(1))), 2)
	n := 0
	for {
		for range 2 {
			refuses(t, m)
			if is := m.Steps(); is != n {
				t.Fatalf("Steps: %d; want %d", is, n)
			}
		}
		if !on(t, m, 0) {
			break
		}
		n++
	}
	if n != 1+1+2*3+2 {
		t.Fatal(n)
	}
}

// P9.2: a copy tells what the machine tells; each of the two is gone on with, by other answers, and the other one stays as it was.
func TestP9_2Copy(t *testing.T) {
	for _, r := range runs(31, 300) {
		l := plain(r.tx, r.vars, r.got, r.answer)
		for at := range l {
			m := begun(t, r.tx, r.vars, r.got...)
			over(t, m, l[:at], r.answer)
			both := [2]*interp.Machine{m, m.Copy()}
			same(t, both[1], l[at])
			turn := at % 2
			for n := int64(0); on(t, both[turn], 50+n); n++ {
				same(t, both[1-turn], l[at])
			}
			holds(t, both[1-turn], l, at, len(l), r.answer)
		}
	}
}

// P9.2: what is done in turn, on one and on a copy within the Body of an OrElse, stays its own: writes, locals, turns and what is kept.
func TestP9_2CopyTurns(t *testing.T) {
	tx := block(write(lit(0), lit(1)), orElse(block(write(lit(1), lit(2)), loop(lit(3), read(1, lit(2)), either(of(api.Equal, local(1), lit(9)), block(retry()), nil), write(lit(3), local(1)))), block(write(lit(4), lit(5)))))
	m := begun(t, tx, 6)
	steps(t, m, 4)
	a, b, c := m.Copy(), m.Copy(), m.Copy()
	row(t, a, asks(2), inner, inner, asks(2), inner, inner, asks(2), inner, inner, ends(0))
	wrote(t, a, pair(0, 1), pair(1, 2), pair(3, 102))
	for range 2 {
		on(t, b, 9)
	}
	same(t, c, now(m))
	on(t, b, 0)
	on(t, b, 0)
	same(t, b, moment{ends(0), locals{}, "[{0 1} {4 5}]", 8})
	same(t, c, moment{asks(2), locals{}, "[{0 1} {1 2}]", 4})
	d := c.Copy()
	on(t, c, 8)
	same(t, d, now(m))
	same(t, m, moment{asks(2), locals{}, "[{0 1} {1 2}]", 4})
}

// R1: each call of a nil machine.
func TestNil(t *testing.T) {
	var m *interp.Machine
	for range 2 {
		if a := m.Next(); a != (interp.Ask{}) {
			t.Fatal(a)
		}
		hands(t, "Step", m.Step(), api.ErrNil)
		hands(t, "Answer", m.Answer(5), api.ErrNil)
		if l := m.Writes(); len(l) != 0 {
			t.Fatal(l)
		}
		if l := m.Locals(); l != (locals{}) {
			t.Fatal(l)
		}
		if n := m.Steps(); n != 0 {
			t.Fatal(n)
		}
		if c := m.Copy(); c != nil {
			t.Fatal(c)
		}
	}
}

// R1: a machine that New has not made has nothing next.
func TestZero(t *testing.T) {
	m := new(interp.Machine)
	for range 2 {
		refuses(t, m)
		same(t, m, moment{ends(0), locals{}, "[]", 0})
		m = m.Copy()
	}
}

// R1: what New was handed stays, also behind its end.
func TestR1Stays(t *testing.T) {
	for _, r := range runs(41, 300) {
		room := append(slices.Clone(r.got), 91, 92)
		tx := append(slices.Clone(r.tx), leave(lit(93)))
		was := code.Copy(tx)
		m := begun(t, tx[:len(r.tx)], r.vars, room[:len(r.got)]...)
		c := m.Copy()
		over(t, m, plain(r.tx, r.vars, r.got, r.answer), r.answer)
		for on(t, c, 3) {
		}
		if !code.Same(tx, was) || !slices.Equal(room, append(slices.Clone(r.got), 91, 92)) {
			t.Fatalf("what was handed over is another one now: %+v, %v; was %+v", tx, room, was)
		}
	}
}

// R1: a machine, and its copy, go on as they would where what New was handed is changed later, at once or in the middle.
func TestR1Own(t *testing.T) {
	for i, r := range runs(51, 600) {
		l := plain(r.tx, r.vars, r.got, r.answer)
		tx, values := code.Copy(r.tx), slices.Clone(r.got)
		m := begun(t, tx, r.vars, values...)
		at := i % len(l)
		over(t, m, l[:at], r.answer)
		c := m.Copy()
		sample.Spoil(tx)
		for n := range values {
			values[n] = -99
		}
		holds(t, m, l, at, len(l), r.answer)
		holds(t, c, l, at, len(l), r.answer)
	}
}

// R1: what goes round in itself is refused, and no call of New comes to no end.
func TestR1Round(t *testing.T) {
	round := block(either(lit(1), nil, nil))
	round[0].Body = round
	refused(t, api.ErrForm, round, 1)
	both := block(orElse(nil, nil), loop(lit(8)))
	both[0].Body, both[0].Else, both[1].Body = both, both, both
	refused(t, api.ErrForm, both, 1)
	e := of(api.Add, lit(1), lit(2))
	e.Args[0], e.Args[1] = e, e
	refused(t, api.ErrForm, block(leave(e)), 1)
	refused(t, api.ErrForm, block(set(1, lit(1)), write(e, lit(1))), 1)
}
