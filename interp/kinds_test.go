package interp_test

import (
	"math"
	"testing"

	"seesaw/api"
	"seesaw/code"
)

// P9.1: a Set, wherever it stands: the local To becomes A, of the locals and of what was returned.
func TestP9_1Set(t *testing.T) {
	for to := range api.MaxLocals {
		for _, in := range nests(set(to, lit(5)), set(0, of(api.Sub, local(int64(to)), got(1)))) {
			m := begun(t, append(in.tx, leave(local(0))), 1, 3, 2)
			row(t, m, inners(in.steps+2, ends(3))...)
			want := locals{}
			want[to], want[0] = 5, 3
			keeps(t, m, want[:]...)
			wrote(t, m)
		}
	}
	m := begun(t, block(set(1, lit(math.MinInt64)), set(1, of(api.Sub, local(1), lit(1))), set(2, local(1))), 1)
	row(t, m, inners(3, ends(0))...)
	keeps(t, m, 0, math.MaxInt64, math.MaxInt64)
}

// P9.1: a Read of a variable that was not written asks for it, wherever it stands, again and again; To becomes what is answered.
func TestP9_1Read(t *testing.T) {
	for to := range api.MaxLocals {
		for _, in := range nests(read(to, lit(4)), read(to, lit(1)), read(to, lit(4))) {
			m := begun(t, append(in.tx, leave(local(int64(to)))), 5)
			row(t, m, append(inners(in.steps, asks(4)), asks(1), asks(4), ends(104))...)
			want := locals{}
			want[to] = 104
			keeps(t, m, want[:]...)
			wrote(t, m)
		}
	}
	for _, x := range []int64{0, 1, -1, math.MaxInt64, math.MinInt64} {
		m := begun(t, block(read(3, lit(0))), 1)
		hands(t, "Answer", m.Answer(x), api.OK)
		keeps(t, m, 0, 0, 0, x)
		same(t, m, moment{ends(0), m.Locals(), "[]", 1})
	}
}

// P9.1: which variable is meant: what is left of A, of any size, by how many there are, as A comes to there.
func TestP9_1Variable(t *testing.T) {
	for _, x := range []struct {
		a    int64
		vars int
		want int
	}{
		{0, 1, 0}, {1, 1, 0}, {-1, 1, 0}, {3, 3, 0}, {4, 3, 1}, {-1, 3, 2}, {-3, 3, 0}, {-4, 3, 2}, {31, 32, 31}, {32, 32, 0}, {-1, 32, 31},
		{math.MaxInt64, 32, 31}, {math.MinInt64, 32, 0}, {math.MaxInt64, 10, 7}, {math.MinInt64, 10, 2},
	} {
		row(t, begun(t, block(read(0, lit(x.a))), x.vars), asks(x.want), ends(0))
		m := begun(t, block(write(lit(x.a), lit(9)), read(1, lit(int64(x.want)))), x.vars)
		row(t, m, inner, inner, ends(0))
		keeps(t, m, 0, 9)
		wrote(t, m, pair(x.want, 9))
	}
	// The local by which it is read is read over by it.
	row(t, begun(t, block(set(1, lit(2)), read(1, local(1)), read(1, local(1)), leave(local(1))), 5), inner, asks(2), asks(102%5), ends(102))
	row(t, begun(t, block(set(1, lit(2)), write(local(1), lit(8)), read(1, local(1)), read(1, local(1))), 5), inner, inner, inner, asks(3), ends(0))
}

// P9.1: a Write, wherever it stands, with as many variables as there may be: what was written last stands; a Read of it asks nothing.
func TestP9_1Write(t *testing.T) {
	for _, in := range nests(write(lit(4), lit(5)), write(lit(-4), of(api.Mul, got(0), lit(2))), write(lit(9), lit(6)), read(2, lit(-1)), read(3, lit(1)), read(4, lit(0))) {
		m := begun(t, in.tx, 5, 8)
		row(t, m, append(inners(in.steps+5, asks(0)), ends(0))...)
		wrote(t, m, pair(1, 16), pair(4, 6))
		keeps(t, m, 0, 0, 6, 16, 100)
	}
	var tx []api.Stmt
	var want pairs
	for v := range api.MaxVars {
		tx = append(tx, write(lit(int64(api.MaxVars-1-v)), lit(int64(v))))
		want = append(want, pair(v, int64(api.MaxVars-1-v)))
	}
	m := begun(t, tx, api.MaxVars)
	row(t, m, inners(len(tx), ends(0))...)
	wrote(t, m, want...)
}

// P9.1: an If, wherever it stands, does its Body, if A is not 0, else its Else, and then what is behind it; empty ones too; A is asked once.
func TestP9_1If(t *testing.T) {
	one, two := block(set(1, lit(11)), set(0, lit(0))), block(set(2, lit(22)), set(0, lit(1)), set(3, lit(33)))
	for _, a := range []int64{1, -1, 0, 2, math.MinInt64, 1 << 32, 256} {
		for _, body := range [][]api.Stmt{nil, {}, one} {
			for _, other := range [][]api.Stmt{nil, {}, two} {
				is := body
				if a == 0 {
					is = other
				}
				for _, in := range nests(either(local(0), body, other), set(4, lit(44))) {
					m := begun(t, append(block(set(0, lit(a))), in.tx...), 1)
					row(t, m, inners(1+in.steps+1+len(is)+1, ends(0))...)
					want := []int64{a, 0, 0, 0, 44}
					for _, s := range is {
						want[s.To] = s.A.N
					}
					keeps(t, m, want...)
				}
			}
		}
	}
}

// P9.1: a Loop, wherever it stands, does its Body A times, none below 0, MaxTurns above.
func TestP9_1Loop(t *testing.T) {
	for _, x := range []struct {
		a    int64
		want int
	}{
		{0, 0}, {1, 1}, {2, 2}, {7, 7}, {8, 8}, {9, 8}, {100, 8}, {256, 8}, {1 << 32, 8}, {math.MaxInt64, 8}, {-1, 0}, {-8, 0}, {-256, 0}, {math.MinInt64, 0},
	} {
		body := block(set(1, of(api.Add, local(1), lit(1))), read(2, lit(0)), write(local(1), local(2)))
		for _, in := range nests(loop(lit(x.a), body...), set(3, lit(3))) {
			m := begun(t, in.tx, 20)
			l := inners(in.steps, inner)
			for range x.want {
				l = append(l, inner, asks(0), inner)
			}
			row(t, m, append(l, inner, ends(0))...)
			want, all := []int64{0, 0, 0, 3}, pairs(nil)
			for i := range x.want {
				want[1], want[2] = int64(i+1), 100
				all = append(all, pair(i+1, 100))
			}
			keeps(t, m, want...)
			wrote(t, m, all...)
		}
		for _, in := range nests(loop(lit(x.a)), set(3, lit(3))) { // an empty Body has no steps
			row(t, begun(t, in.tx, 1), inners(in.steps+2, ends(0))...)
		}
	}
}

// P9.1: a Loop's turns are told as it comes to the Loop, each time anew, whatever its Body changes.
func TestP9_1LoopOnce(t *testing.T) {
	for _, to := range []int64{0, 1, 100, -5} {
		m := begun(t, block(set(0, lit(3)), loop(local(0), set(0, lit(to)), set(1, of(api.Add, local(1), lit(1))))), 1)
		row(t, m, inners(2+3*2, ends(0))...)
		keeps(t, m, to, 3)
	}
	// The inner Loop turns once, twice, three times.
	m := begun(t, block(loop(lit(3), set(0, of(api.Add, local(0), lit(1))), loop(local(0), set(1, of(api.Add, local(1), lit(1)))))), 1)
	row(t, m, inners(1+3*2+1+2+3, ends(0))...)
	keeps(t, m, 3, 6)
}

// P9.1: an OrElse, wherever it stands, whose Body does not Retry: its Body is done, and then what is behind it, and not its Else.
func TestP9_1Body(t *testing.T) {
	bad := block(set(5, lit(-5)), write(lit(9), lit(-9)))
	body := block(set(1, lit(11)), write(lit(2), lit(22)), read(3, lit(2)), read(4, lit(3)))
	for _, in := range nests(orElse(body, bad), read(0, lit(2)), read(6, lit(4))) {
		m := begun(t, append(block(write(lit(2), lit(1)), write(lit(6), lit(66))), in.tx...), 10)
		row(t, m, append(inners(2+in.steps+4, asks(3)), inner, asks(4), ends(0))...)
		keeps(t, m, 22, 11, 0, 22, 103, 0, 104)
		wrote(t, m, pair(2, 22), pair(6, 66))
	}
	for _, in := range nests(orElse(nil, bad), orElse(block(), nil), set(1, lit(1))) { // empty ones
		m := begun(t, in.tx, 10)
		row(t, m, inners(in.steps+3, ends(0))...)
		keeps(t, m, 0, 1)
		wrote(t, m)
	}
}

// P9.1: an OrElse, wherever it stands, whose Body comes to Retry: locals and writes are as they were kept, its Else is done, and then what is behind it.
func TestP9_1Else(t *testing.T) {
	body := block(set(1, lit(11)), set(2, lit(12)), write(lit(2), lit(22)), write(lit(5), lit(55)), read(3, lit(2)), read(4, lit(3)), retry(), leave(lit(-1)))
	other := block(read(5, lit(2)), read(6, lit(5)), set(7, of(api.Add, local(1), lit(1))), write(lit(2), lit(23)))
	for _, in := range nests(orElse(body, other), read(0, lit(2)), set(4, lit(4))) {
		m := begun(t, append(block(write(lit(2), lit(1)), set(1, lit(10))), in.tx...), 10)
		l := append(inners(2+in.steps+6, asks(3)), inner, inner, asks(5), inner, inner, inner, inner, ends(0))
		row(t, m, l...)
		keeps(t, m, 23, 10, 0, 0, 4, 1, 105, 11)
		wrote(t, m, pair(2, 23))
	}
	for _, other := range [][]api.Stmt{nil, {}} { // an empty one
		for _, in := range nests(orElse(block(write(lit(0), lit(1)), set(0, lit(9)), retry()), other), set(1, lit(1))) {
			m := begun(t, in.tx, 1)
			row(t, m, inners(in.steps+5, ends(0))...)
			keeps(t, m, 0, 1)
			wrote(t, m)
		}
	}
}

// P9.1: a Retry in blocks within blocks of a Body belongs to its OrElse; what is left of these blocks, turns of Loops too, is not done.
func TestP9_1RetryWithin(t *testing.T) {
	never := set(6, lit(-6))
	again := set(1, of(api.Add, local(1), lit(1)))
	for _, x := range []struct {
		body  []api.Stmt
		steps int
	}{
		{block(retry(), never), 1},
		{block(either(lit(1), block(retry(), never), nil), never), 2},
		{block(either(lit(0), block(never), block(retry(), never)), never), 2},
		{block(loop(lit(5), retry(), never), never), 2},
		{block(loop(lit(5), again, either(of(api.Equal, local(1), lit(3)), block(retry(), never), nil)), never), 1 + 3*2 + 1},
		{block(loop(lit(2), again, loop(lit(2), again, either(lit(1), block(retry()), nil)), never), never), 1 + 1 + 1 + 2 + 1},
	} {
		for _, in := range nests(orElse(x.body, block(set(2, of(api.Add, local(1), lit(2))))), set(3, lit(3))) {
			if !code.May(in.tx, 0) { // Loops in Loops cost too much
				continue
			}
			m := begun(t, in.tx, 1)
			row(t, m, inners(in.steps+1+x.steps+2, ends(0))...)
			keeps(t, m, 0, 0, 2, 3)
		}
	}
}

// P9.1: an OrElse in the Body of another one: a Retry there is its own; one behind it, or in its Else, belongs to the outer one, and what its Body wrote is gone, too.
func TestP9_1OrElseInBody(t *testing.T) {
	one := func(v int64) api.Stmt { return write(lit(v), lit(10+v)) }
	in := block(one(1), set(1, lit(1)), orElse(block(one(2), set(2, lit(2)), retry()), block(one(3), set(3, lit(3)))), one(4))
	m := begun(t, block(one(0), orElse(in, block(one(5)))), 10)
	row(t, m, inners(2+2+1+3+2+1, ends(0))...)
	keeps(t, m, 0, 1, 0, 3)
	wrote(t, m, pair(0, 10), pair(1, 11), pair(3, 13), pair(4, 14))

	m = begun(t, block(one(0), set(0, lit(7)), orElse(append(in, retry()), block(one(5)))), 10)
	row(t, m, inners(3+2+1+3+2+1+1+1, ends(0))...)
	keeps(t, m, 7)
	wrote(t, m, pair(0, 10), pair(5, 15))

	in = block(one(1), orElse(block(one(2)), block(one(3))), one(4), retry()) // what the inner Body has merged goes with the outer one
	m = begun(t, block(one(0), orElse(in, block(one(5)))), 10)
	row(t, m, inners(2+1+1+1+1+1+1, ends(0))...)
	wrote(t, m, pair(0, 10), pair(5, 15))

	in = block(one(1), orElse(block(one(2), retry()), block(one(3), set(3, lit(3)), retry())), one(4))
	m = begun(t, block(one(0), orElse(in, block(one(5)))), 10)
	row(t, m, inners(2+1+1+2+3+1, ends(0))...)
	keeps(t, m)
	wrote(t, m, pair(0, 10), pair(5, 15))
}

// P9.1: an OrElse in the Else of another one, and one behind the other: each has its own Else, with things as they were kept there.
func TestP9_1OrElseInElse(t *testing.T) {
	one := func(v int64) api.Stmt { return write(lit(v), lit(10+v)) }
	in := block(one(1), set(1, lit(1)), orElse(block(one(2), set(2, lit(2)), retry()), block(one(3), set(3, lit(3)))), one(4))
	m := begun(t, block(orElse(block(one(0), set(0, lit(1)), retry()), in), one(5)), 10)
	row(t, m, inners(4+2+1+3+2+2, ends(0))...)
	keeps(t, m, 0, 1, 0, 3)
	wrote(t, m, pair(1, 11), pair(3, 13), pair(4, 14), pair(5, 15))

	m = begun(t, block(orElse(block(one(0), retry()), block(one(1))), orElse(block(one(2), retry()), block(one(3))), orElse(block(one(4)), block(one(5)))), 10)
	row(t, m, inners(4+4+2, ends(0))...)
	wrote(t, m, pair(1, 11), pair(3, 13), pair(4, 14))

	// As deep as may be, each in the Else of the next one.
	tx := block(one(9), leave(lit(9)))
	for v := range int64(api.MaxNest - 1) {
		tx = block(orElse(block(one(v), set(int(v), lit(1)), retry()), tx))
	}
	m = begun(t, tx, 10)
	row(t, m, inners((api.MaxNest-1)*4+1, ends(9))...)
	keeps(t, m)
	wrote(t, m, pair(9, 19))
}

// P9.1: a Retry within the Body of no OrElse Retries, where it stands in an Else, or behind an OrElse, or after its Body was left, too: what was written stays to be told.
func TestP9_1Retries(t *testing.T) {
	for _, in := range nests(write(lit(1), lit(2)), retry(), leave(lit(3))) {
		m := begun(t, in.tx, 3)
		if in.body {
			continue
		}
		row(t, m, inners(in.steps+1, retries)...)
		wrote(t, m, pair(1, 2))
	}
	for _, x := range []struct {
		tx    []api.Stmt
		steps int
	}{
		{block(orElse(block(retry()), block(retry()))), 2},
		{block(orElse(nil, nil), retry()), 1},
		{block(orElse(block(set(1, lit(1))), nil), retry()), 2},
		{block(orElse(block(retry()), nil), retry()), 2},
		{block(orElse(block(retry()), block(set(1, lit(1)))), either(lit(1), block(retry()), nil)), 4},
		{block(orElse(block(retry()), block(loop(lit(2), retry())))), 3},
		{block(orElse(block(retry()), block(orElse(block(retry()), block(retry()))))), 4},
		{block(orElse(block(orElse(block(retry()), block(retry()))), block(retry()))), 4},
		{block(loop(lit(2), orElse(block(retry()), nil)), retry()), 5},
	} {
		row(t, begun(t, x.tx, 1), inners(x.steps, retries)...)
	}
}

// P9.1: a Return ends it, wherever it stands, with what A comes to there; within the Body of an OrElse what was written there is told.
func TestP9_1Return(t *testing.T) {
	for _, in := range nests(set(1, lit(5)), write(lit(1), lit(6)), leave(of(api.Add, local(1), got(0))), write(lit(2), lit(7)), retry()) {
		m := begun(t, append(block(write(lit(0), lit(4))), append(in.tx, leave(lit(-1)))...), 3, 20)
		row(t, m, inners(1+in.steps+2, ends(25))...)
		keeps(t, m, 0, 5)
		wrote(t, m, pair(0, 4), pair(1, 6))
	}
	for _, in := range nests(loop(lit(8), set(1, of(api.Add, local(1), lit(1))), either(of(api.Less, lit(2), local(1)), block(leave(local(1))), nil)), leave(lit(-1))) {
		row(t, begun(t, in.tx, 1), inners(in.steps+1+6, ends(3))...)
	}
	for _, x := range []int64{0, -1, math.MaxInt64, math.MinInt64} {
		row(t, begun(t, block(leave(lit(x)), leave(lit(5))), 1), ends(x))
	}
}

// P9.1: without a Return it ends with 0, whatever the locals are.
func TestP9_1NoReturn(t *testing.T) {
	for _, in := range nests(set(0, lit(5)), write(lit(0), lit(6)), read(1, lit(1))) {
		m := begun(t, in.tx, 2)
		row(t, m, append(inners(in.steps+2, asks(1)), ends(0))...)
		keeps(t, m, 5, 101)
		wrote(t, m, pair(0, 6))
	}
	row(t, begun(t, nil, 1), ends(0))
}
