package attempt_test

import (
	"fmt"
	"math"
	"slices"
	"testing"

	"seesaw/api"
	"seesaw/attempt"
	"seesaw/code"
	"seesaw/heap"
	"seesaw/sample"
)

// reads is a Read of the variable 0, and a Return of it.
func reads() []api.Stmt { return block(read(1, lit(0)), leave(local(1))) }

// The chapter's examples.
func TestExamples(t *testing.T) {
	h := heaped(t, 1, 0, 7)
	x := fresh(t, 0, reads(), 1, 1)
	x.row(t, h, "0 begin 0 0; 0 look 0 0; 0 load 0 7")
	x.ends(t, attempt.Ends, 7, []int{0})

	x = fresh(t, 0, reads(), 1, 1)
	x.row(t, h, "0 begin 0 0")
	held := h.Copy()
	own(t, held, 1, 0)
	x.row(t, held, "0 abort 1 0")
	x.ends(t, attempt.Aborted, 0, nil)

	x = fresh(t, 0, reads(), 1, 1)
	x.row(t, h, "0 begin 0 0; 0 look 0 0")
	commit(t, h, 1, 0, 8)
	x.row(t, h, "0 abort 3 0")
	x.ends(t, attempt.Aborted, 0, nil)
}

// P16.1: of each thread that there may be, and of no other one.
func TestP16_1NewThread(t *testing.T) {
	for _, n := range append(numbers(), api.MaxThreads-1, api.MaxThreads, 4) {
		if n < 0 || n > 5 {
			refused(t, api.ErrArg, n, reads(), 2, 1)
			refused(t, api.ErrArg, n, nil, api.MaxVars, api.MaxVars)
			continue
		}
		x := fresh(t, n, reads(), 2, 1)
		x.row(t, heaped(t, 1, 0, 3, 4), fmt.Sprintf("%d begin 0 0; %d look 0 0; %d load 0 3", n, n, n))
	}
}

// P16.1: over 1 to MaxVars variables, and 1 to as many stripes, each of both, and of no other sizes.
func TestP16_1NewSizes(t *testing.T) {
	sizes := slices.Concat(numbers(), []int{4, 15, 30, api.MaxVars})
	for vars := range api.MaxVars + 3 {
		for stripes := range api.MaxVars + 3 {
			if vars == 0 || vars > 32 || stripes == 0 || stripes > vars {
				refused(t, api.ErrArg, 0, reads(), vars, stripes)
				continue
			}
			x := fresh(t, 5, block(read(1, lit(-1)), leave(local(1))), vars, stripes)
			h := heaped(t, stripes, 0, tens(vars)...)
			x.row(t, h, fmt.Sprintf("5 begin 0 0; 5 look %d 0; 5 load %d %d", (vars-1)%stripes, vars-1, 10*vars))
		}
	}
	for _, vars := range sizes {
		for _, stripes := range sizes {
			if vars < 1 || vars > 32 || stripes < 1 || stripes > vars {
				refused(t, api.ErrArg, 0, nil, vars, stripes)
			} else {
				fresh(t, 0, nil, vars, stripes)
			}
		}
	}
}

// P16.1: of a transaction that may not be there is none; what is at the limits, or was made by short rules, is refused just if it may not be.
func TestP16_1NewForm(t *testing.T) {
	for _, tx := range sample.Bad() {
		refused(t, api.ErrForm, 0, tx, 3, 2)
		refused(t, api.ErrForm, 5, tx, api.MaxVars, api.MaxVars, 1, 2)
	}
	fresh(t, 0, sample.Retries(api.MaxStmts), 3, 1)
	fresh(t, 0, sample.Costing(api.MaxCost), 3, 1)
	next := sample.Noise(16)
	may, not := 0, 0
	for range 1000 {
		n := next(api.MaxTx)
		tx := sample.Stmts(next, n+next(4)/3, 2+next(4), 1+next(api.MaxNest+2))
		if code.May(tx, n) {
			may++
			fresh(t, 1, tx, 2, 1, make([]int64, n)...)
		} else {
			not++
			refused(t, api.ErrForm, 1, tx, 2, 1, make([]int64, n)...)
		}
	}
	if may < 100 || not < 100 {
		t.Fatal("too few", may, not)
	}
}

// P16.1: a transaction that asks what earlier ones returned may be just behind so many; behind MaxTx of them there is none. Its number is that in its Begin, and what they returned is what it is told.
func TestP16_1NewGot(t *testing.T) {
	values := []int64{11, 12, 13, 14, 15, 16, 17}
	for n := range api.MaxTx {
		for asked := range api.MaxTx {
			tx := block(leave(got(int64(asked))))
			if asked >= n {
				refused(t, api.ErrForm, 2, tx, 1, 1, values[:n]...)
				continue
			}
			x := fresh(t, 2, tx, 1, 1, values[:n]...)
			x.row(t, heaped(t, 1, 3, 0), fmt.Sprintf("2 begin %d 3", n))
			x.ends(t, attempt.Ends, values[asked], nil)
		}
	}
	for n := api.MaxTx; n <= len(values); n++ {
		refused(t, api.ErrForm, 2, nil, 1, 1, values[:n]...)
		refused(t, api.ErrForm, 2, reads(), 1, 1, values[:n]...)
	}
}

// P16.1: where several things are wrong it is ErrArg that is told.
func TestP16_1NewRows(t *testing.T) {
	bad := append(sample.Bad(), block(leave(got(0))))
	for _, tx := range bad {
		for _, c := range [][3]int{{-1, 1, 1}, {api.MaxThreads, 2, 2}, {0, 0, 1}, {0, 0, 0}, {0, -1, 1}, {0, api.MaxVars + 1, 1}, {0, 3, 0}, {0, 3, -1}, {0, 3, 4}, {5, api.MaxVars, api.MaxVars + 1}, {-1, 0, 0}, {6, 33, 33}} {
			refused(t, api.ErrArg, c[0], tx, c[1], c[2])
			refused(t, api.ErrArg, c[0], tx, c[1], c[2], make([]int64, api.MaxTx)...)
			refused(t, api.ErrArg, c[0], nil, c[1], c[2])
		}
		refused(t, api.ErrForm, 0, tx, 1, 1)
	}
}

// P16.1, P16.2: at its beginning it is Fresh, whatever its transaction begins by: nothing is read, or written, and it has no value.
func TestP16_1Fresh(t *testing.T) {
	for _, tx := range [][]api.Stmt{nil, {}, reads(), block(leave(lit(5))), block(retry()), block(set(1, lit(2))), block(write(lit(0), lit(3))), block(orElse(block(retry()), nil))} {
		x := fresh(t, 3, tx, 4, 2)
		is(t, "Where", x.a.Where(), attempt.Fresh)
		is(t, "Value", x.a.Value(), 0)
		is(t, "RV", x.a.RV(), 0)
		list(t, "Read", x.a.Read(), nil)
		list(t, "Writes", x.a.Writes(), nil)
		is(t, "Set", shown(x.a.Set()), "0 [] 2")
		x.refusals(t, heaped(t, 2, 0, 1, 2, 3, 4))
	}
}

// P16.1: Fresh: RV becomes the heap's clock, whoever owns what there, and it is where its machine says then.
func TestP16_1Begin(t *testing.T) {
	for _, clock := range []int{0, 1, 2, 7, 300} {
		for n := range api.MaxTx {
			for _, c := range []struct {
				tx   []api.Stmt
				then uint8
			}{
				{nil, attempt.Ends}, {block(leave(lit(5))), attempt.Ends}, {block(retry()), attempt.Retries},
				{reads(), attempt.Looks}, {block(orElse(block(retry()), nil)), attempt.Inner}, {block(set(1, lit(2))), attempt.Inner},
				{block(write(lit(0), lit(3))), attempt.Inner}, {block(either(lit(0), nil, nil)), attempt.Inner}, {block(loop(lit(0))), attempt.Inner},
			} {
				h := heaped(t, 2, clock, 1, 2)
				own(t, h, 1, 0, 1)
				x := fresh(t, 1, c.tx, 2, 2, make([]int64, n)...)
				x.row(t, h, fmt.Sprintf("1 begin %d %d", n, clock))
				is(t, "Where", x.a.Where(), c.then)
				is(t, "RV", x.a.RV(), clock)
				is(t, "Set", shown(x.a.Set()), fmt.Sprint(clock, " [] 2"))
			}
		}
	}
}

// P16.1, P16.2: Value is with what it ended, by a Return, of any value, or by its end.
func TestP16_2Value(t *testing.T) {
	h := heaped(t, 1, 0, 4)
	for _, v := range []int64{0, 1, -1, 5, math.MaxInt64, math.MinInt64} {
		x := fresh(t, 0, block(leave(lit(v)), set(1, lit(9)), leave(lit(8))), 1, 1)
		is(t, "Value", x.a.Value(), 0)
		x.row(t, h, "0 begin 0 0")
		x.ends(t, attempt.Ends, v, nil)
	}
	x := fresh(t, 0, block(set(1, lit(9)), read(2, lit(0)), write(lit(0), lit(7))), 1, 1)
	x.row(t, h, "0 begin 0 0; -; 0 look 0 0; 0 load 0 4; -")
	x.ends(t, attempt.Ends, 0, []int{0}, pair(0, 7))
	for _, last := range [][]api.Stmt{{retry()}, {read(1, lit(0)), leave(lit(9))}} { // which does not end
		x := fresh(t, 0, append(block(set(1, lit(9))), last...), 1, 1)
		own(t, h, 1, 0)
		x.finish(t, h, nothing)
		is(t, "Value", x.a.Value(), 0)
		hands(t, "Let", h.Let(0, 1), api.OK)
	}
}

// P16.1: Inner: a statement by which nothing shared is touched is done, on whatever heap, without an event.
func TestP16_1Inner(t *testing.T) {
	tx := block(set(0, lit(1)), write(lit(1), lit(20)), read(1, lit(1)), either(local(1), block(set(2, lit(3))), nil),
		loop(lit(2), set(3, of(api.Add, local(3), lit(4)))), orElse(block(write(lit(1), lit(30)), retry()), block(write(lit(2), local(1)))),
		leave(of(api.Add, of(api.Mul, local(0), lit(1000)), of(api.Add, local(2), local(3)))))
	x := fresh(t, 2, tx, 3, 2)
	x.row(t, heaped(t, 2, 4, 7, 8, 9), "2 begin 0 4")
	for n := range 12 {
		is(t, "Where", x.a.Where(), attempt.Inner)
		h := heaped(t, 2, 6+n, 1, 2, 3)
		own(t, h, 4, 0, 1)
		x.row(t, h, "-")
	}
	x.ends(t, attempt.Ends, 1011, nil, pair(1, 20), pair(2, 20))
	is(t, "RV", x.a.RV(), 4)
}

// at is an attempt, of RV 5, that is about to look at the stripe 1 of the variable 4, over six variables, three stripes; it has read the stripe 2, and written the variable 3.
func at(t *testing.T, thread int) (*tried, *heap.Heap) {
	t.Helper()
	h := heaped(t, 3, 0, tens(6)...)
	for v := range 5 {
		commit(t, h, 5, v, int64(100+v)) // the versions are 4, 5, 3
	}
	x := fresh(t, thread, block(write(lit(3), lit(9)), read(1, lit(2)), read(2, lit(4)), leave(local(2))), 6, 3)
	x.row(t, h, fmt.Sprintf("%d begin 0 5; -; %d look 2 3; %d load 2 102", thread, thread, thread))
	is(t, "Where", x.a.Where(), attempt.Looks)
	return x, h
}

// P16.1: Looks: the stripe of the variable that is asked is looked at, if nobody owns it, and its version is RV at most; it is not read by that.
func TestP16_1Look(t *testing.T) {
	for version := range 6 {
		h := heaped(t, 3, 5, tens(6)...)
		own(t, h, 2, 0, 1)
		hands(t, "Free", h.Free(1, 2, version), api.OK)
		x := fresh(t, 4, block(read(1, lit(4))), 6, 3)
		x.row(t, h, fmt.Sprintf("4 begin 0 5; 4 look 1 %d", version))
		is(t, "Where", x.a.Where(), attempt.Loads)
		list(t, "Read", x.a.Read(), nil)
		x.refusals(t, h)
		x.row(t, h, "4 load 4 50")
		x.ends(t, attempt.Ends, 0, []int{1})
	}
}

// P16.1: Looks: whoever owns the stripe, of whatever version: Held; what was read, and written, is told still.
func TestP16_1Held(t *testing.T) {
	for thread := range api.MaxThreads {
		for owner := range api.MaxThreads {
			for _, newer := range []bool{false, true} {
				x, h := at(t, thread)
				if newer {
					commit(t, h, 0, 1, 3)
				}
				x.copied(t).row(t, h, fmt.Sprintf([2]string{"%d look 1 5", "%d abort 2 1"}[count(newer)], thread))
				own(t, h, owner, 1)
				x.refusals(t, h)
				x.row(t, h, fmt.Sprintf("%d abort 1 1", thread))
				x.ends(t, attempt.Aborted, 0, []int{2}, pair(3, 9))
				is(t, "RV", x.a.RV(), 5)
				x.refusals(t, h)
			}
		}
	}
}

// count is 1, if it is so.
func count(is bool) int {
	if is {
		return 1
	}
	return 0
}

// P16.1: Looks: nobody owns the stripe, and its version is above RV: Newer, by how much it ever is.
func TestP16_1Newer(t *testing.T) {
	for above := 1; above < 5; above++ {
		x, h := at(t, 1)
		for range above {
			commit(t, h, 0, 4, 77)
		}
		own(t, h, 3, 0, 2)
		x.row(t, h, "1 abort 2 1")
		x.ends(t, attempt.Aborted, 0, []int{2}, pair(3, 9))
		x.refusals(t, h)
	}
	x, h := at(t, 1) // another stripe of a greater version, and a greater clock, are nothing to it
	commit(t, h, 0, 0, 77)
	commit(t, h, 0, 2, 77)
	own(t, h, 3, 0, 2)
	x.row(t, h, "1 look 1 5; 1 load 4 104")
	x.ends(t, attempt.Ends, 104, []int{1, 2}, pair(3, 9))
}

// P16.1: Loads: nobody owns the stripe, and its version is that which it had: the machine gets the value that is there then, and the stripe was read; whatever other stripes are, and if it was owned between.
func TestP16_1Load(t *testing.T) {
	for _, v := range []int64{0, 1, -1, 50, math.MaxInt64, math.MinInt64} {
		x, h := at(t, 1)
		x.row(t, h, "1 look 1 5")
		commit(t, h, 0, 0, 78)
		commit(t, h, 0, 2, 79)
		own(t, h, 3, 0, 2, 1)
		hands(t, "Set", h.Set(4, v), api.OK)
		hands(t, "Let", h.Let(1, 3), api.OK)
		list(t, "Read", x.a.Read(), []int{2})
		x.refusals(t, h)
		x.row(t, h, fmt.Sprint("1 load 4 ", v))
		x.ends(t, attempt.Ends, v, []int{1, 2}, pair(3, 9))
		is(t, "Set", shown(x.a.Set()), "5 [1 2] 3")
		x.refusals(t, h)
	}
}

// P16.1: Loads: behind a Load it is where its machine says.
func TestP16_1LoadThen(t *testing.T) {
	for _, c := range []struct {
		behind api.Stmt
		then   uint8
	}{{read(2, local(1)), attempt.Looks}, {read(2, lit(0)), attempt.Looks}, {retry(), attempt.Retries}, {leave(local(1)), attempt.Ends}, {write(lit(1), lit(2)), attempt.Inner}, {either(local(1), nil, nil), attempt.Inner}} {
		x := fresh(t, 0, block(read(1, lit(0)), c.behind), 2, 1)
		x.row(t, heaped(t, 1, 0, 7, 8), "0 begin 0 0; 0 look 0 0; 0 load 0 7")
		is(t, "Where", x.a.Where(), c.then)
	}
}

// P16.1: Loads: the stripe has an owner then, whoever that is, or another version than at the Look, or both: Moved; that stripe was not read.
func TestP16_1Moved(t *testing.T) {
	for owner := -1; owner < api.MaxThreads; owner++ {
		for above := range 3 {
			if owner == -1 && above == 0 {
				continue
			}
			x, h := at(t, 1)
			x.row(t, h, "1 look 1 5")
			for range above {
				commit(t, h, 0, 1, 104)
			}
			if owner != -1 {
				own(t, h, owner, 1)
			}
			x.refusals(t, h)
			x.row(t, h, "1 abort 3 1")
			x.ends(t, attempt.Aborted, 0, []int{2}, pair(3, 9))
			is(t, "RV", x.a.RV(), 5)
			x.refusals(t, h)
		}
	}
}

// P16.1: Loads: a version below that at the Look, or another one that is RV at most, is another one, too.
func TestP16_1MovedBelow(t *testing.T) {
	for version := range 6 {
		x, _ := at(t, 1)
		h := heaped(t, 3, 5, tens(6)...)
		own(t, h, 0, 1)
		hands(t, "Free", h.Free(1, 0, 3), api.OK)
		x.row(t, h, "1 look 1 3")
		other := heaped(t, 3, 9, tens(6)...)
		own(t, other, 0, 1)
		hands(t, "Free", other.Free(1, 0, version), api.OK)
		if version == 3 {
			x.row(t, other, "1 load 4 50")
		} else {
			x.row(t, other, "1 abort 3 1")
		}
	}
}

// P16.1: Loads: the version at the Look is that of the last Look, not of one ahead of it.
func TestP16_1MovedLast(t *testing.T) {
	h := heaped(t, 2, 0, 10, 20)
	commit(t, h, 0, 0, 11)
	commit(t, h, 0, 1, 21)
	x := fresh(t, 3, block(read(1, lit(0)), read(2, lit(1)), read(3, lit(0))), 2, 2)
	x.row(t, h, "3 begin 0 2; 3 look 0 1; 3 load 0 11; 3 look 1 2; 3 load 1 21; 3 look 0 1")
	y := x.copied(t)
	x.row(t, h, "3 load 0 11")
	commit(t, h, 4, 1, 22)
	y.row(t, h, "3 load 0 11")
	x.ends(t, attempt.Ends, 0, []int{0, 1})
	y.ends(t, attempt.Ends, 0, []int{0, 1})
}

// P16.1: Ends, Retries, Aborted: there is no next step, whatever the heap is, again and again.
func TestP16_1Over(t *testing.T) {
	for _, c := range []struct {
		last  api.Stmt
		where uint8
	}{{leave(lit(5)), attempt.Ends}, {retry(), attempt.Retries}, {read(1, lit(1)), attempt.Aborted}, {set(1, lit(1)), attempt.Ends}} {
		h := heaped(t, 2, 1, 10, 20)
		own(t, h, 0, 1)
		x := fresh(t, 1, block(read(1, lit(0)), write(lit(0), lit(8)), c.last), 2, 2)
		x.finish(t, h, nothing)
		is(t, "Where", x.a.Where(), c.where)
		for range 3 {
			x.refusals(t, h)
		}
		hands(t, "Let", h.Let(1, 0), api.OK)
		x.refusals(t, h)
		commit(t, h, 0, 0, 9)
		x.refusals(t, h)
		value := int64(0)
		if c.last.Kind == api.Return {
			value = 5
		}
		x.ends(t, c.where, value, []int{0}, pair(0, 8))
	}
}

// P16.1: no heap, and heaps of other sizes, are refused at each place, and nothing is changed by that.
func TestP16_1Refused(t *testing.T) {
	places := map[uint8]int{}
	for seed := range uint64(60) {
		next := sample.Noise(seed + 700)
		x := some(t, next)
		w := &world{h: x.heap(t, next), next: next}
		x.finish(t, w.h, func() {
			x.refusals(t, w.h)
			places[x.a.Where()]++
			if seed%2 == 0 {
				w.turns(t, 2)
			}
		})
		x.refusals(t, w.h)
		places[x.a.Where()]++
	}
	enough(t, places, 5)
}

// P16.1: a heap that differs just by one variable, or one stripe, at both ends of what there may be.
func TestP16_1HeapSizes(t *testing.T) {
	for _, size := range [][2]int{{1, 1}, {2, 1}, {2, 2}, {5, 3}, {31, 31}, {32, 1}, {32, 31}, {32, 32}} {
		x := fresh(t, 0, reads(), size[0], size[1])
		for vars := range api.MaxVars + 1 {
			for stripes := range vars + 1 {
				if h, e := heap.New(make([]int64, vars), stripes, 3); e == api.OK && [2]int{vars, stripes} != size {
					x.refuses(t, h, api.ErrArg)
				}
			}
		}
		x.row(t, heaped(t, size[1], 0, make([]int64, size[0])...), "0 begin 0 0; 0 look 0 0; 0 load 0 0")
	}
}

// R1: no attempt: each call of it, with a heap and without; one that New has not made is none, too.
func TestR1Nil(t *testing.T) {
	for _, a := range []*attempt.Attempt{nil, new(attempt.Attempt), new(attempt.Attempt).Copy()} {
		for _, h := range []*heap.Heap{nil, new(heap.Heap), heaped(t, 1, 0, 5)} {
			e, there, wrong := a.Step(h)
			is(t, "an event of no attempt", e, api.Event{})
			is(t, "whether there is one", there, false)
			hands(t, "Step of no attempt", wrong, api.ErrNil)
		}
		is(t, "Where", a.Where(), 0)
		is(t, "Value", a.Value(), 0)
		is(t, "RV", a.RV(), 0)
		list(t, "Read", a.Read(), nil)
		list(t, "Writes", a.Writes(), nil)
		is(t, "whether there is no set", a.Set() == nil, true)
	}
	var a *attempt.Attempt
	is(t, "whether there is no copy", a.Copy() == nil, true)
}

// P16.2: Read rises, whatever row the stripes were read in, and has each once; Writes rise, and have what was written last.
func TestP16_2Rising(t *testing.T) {
	h := heaped(t, 4, 0, tens(8)...)
	x := fresh(t, 0, block(read(0, lit(7)), write(lit(6), lit(1)), read(0, lit(2)), write(lit(1), lit(2)), read(0, lit(3)), write(lit(6), lit(3)), read(0, lit(0)), write(lit(0), lit(4)), read(0, lit(2))), 8, 4)
	for _, c := range []struct{ read, writes string }{
		{"[]", "[]"}, {"[]", "[]"}, {"[]", "[]"}, {"[3]", "[]"}, {"[3]", "[{6 1}]"}, {"[3]", "[{6 1}]"}, {"[2 3]", "[{6 1}]"}, {"[2 3]", "[{1 2} {6 1}]"}, {"[2 3]", "[{1 2} {6 1}]"},
		{"[2 3]", "[{1 2} {6 1}]"}, {"[2 3]", "[{1 2} {6 3}]"}, {"[2 3]", "[{1 2} {6 3}]"}, {"[0 2 3]", "[{1 2} {6 3}]"}, {"[0 2 3]", "[{0 4} {1 2} {6 3}]"}, {"[0 2 3]", "[{0 4} {1 2} {6 3}]"},
	} {
		is(t, "Read", fmt.Sprint(x.a.Read()), c.read)
		is(t, "Writes", fmt.Sprint(x.a.Writes()), c.writes)
		x.step(t, h)
	}
	x.ends(t, attempt.Ends, 0, []int{0, 2, 3}, pair(0, 4), pair(1, 2), pair(6, 3))
}

// P16.2: Set is a set of its own: what is put to it is nothing to the attempt, and what the attempt reads then nothing to it.
func TestP16_2Set(t *testing.T) {
	x, h := at(t, 0)
	s, other := x.a.Set(), x.a.Set()
	x.row(t, h, "0 look 1 5; 0 load 4 104")
	is(t, "a set that was told", shown(s), "5 [2] 3")
	hands(t, "Add", s.Add(0), api.OK)
	is(t, "a set that was put to", shown(s), "5 [0 2] 3")
	is(t, "another one", shown(other), "5 [2] 3")
	x.holds(t)
	is(t, "Set", shown(x.a.Set()), "5 [1 2] 3")
	y := fresh(t, 0, nil, 9, 4)
	s = y.a.Set()
	hands(t, "Add", s.Add(3), api.OK)
	is(t, "Set of one that is Fresh", shown(y.a.Set()), "0 [] 4")
}

// P16.2: a copy is as the attempt at each place, and goes its own way, both ways round: one of both is gone on with to its end, on another heap, and the other one is as it was, and goes on as it would have.
func TestP16_2Copy(t *testing.T) {
	places := map[uint8]int{}
	for seed := range uint64(300) {
		next := sample.Noise(seed + 900)
		x := some(t, next)
		w := &world{h: x.heap(t, next), next: next}
		alone := x.heap(t, next)
		x.finish(t, w.h, func() {
			places[x.a.Where()]++
			c := x.copied(t)
			if next(2) == 0 { // it is the copy that goes on, and the other one that comes to its end
				*x, *c = *c, *x
			}
			was := x.told()
			c.finish(t, alone, nothing)
			is(t, "what it tells behind a copy's end", tells(x.a), was)
			w.turns(t, 1)
		})
		places[x.a.Where()]++
		c := x.copied(t)
		c.refusals(t, w.h)
		x.refusals(t, w.h)
	}
	enough(t, places, 15)
}

// P16.2: both go on by turns, and copies of copies.
func TestP16_2CopyTurns(t *testing.T) {
	tx := block(write(lit(0), lit(1)), read(1, lit(1)), orElse(block(write(lit(1), lit(2)), read(2, lit(2)), either(of(api.Equal, local(2), lit(30)), block(retry()), nil)), block(write(lit(0), lit(5)))), leave(local(2)))
	h := heaped(t, 3, 0, 10, 20, 30)
	x := fresh(t, 0, tx, 3, 3)
	x.row(t, h, "0 begin 0 0; -; 0 look 1 0; 0 load 1 20; -; -; 0 look 2 0")
	y := x.copied(t)
	z := y.copied(t)
	x.row(t, h, "0 load 2 30")
	other := h.Copy()
	hands(t, "Set", other.Set(2, 31), api.OK)
	y.row(t, other, "0 load 2 31")
	x.row(t, h, "-")
	y.row(t, h, "-")
	commit(t, h, 1, 2, 8)
	z.row(t, h, "0 abort 3 2")
	x.row(t, h, "-; -")
	x.ends(t, attempt.Ends, 0, []int{1, 2}, pair(0, 5))
	y.ends(t, attempt.Ends, 31, []int{1, 2}, pair(0, 1), pair(1, 2))
	z.ends(t, attempt.Aborted, 0, []int{1}, pair(0, 1), pair(1, 2))
}

// P16.1, P16.2: of any attempts, on heaps to which anything happens, each step is what the chapter's words say.
func TestP16_1Any(t *testing.T) {
	places, why, kinds := map[uint8]int{}, map[uint8]int{}, map[uint8]int{}
	for seed := range uint64(1500) {
		next := sample.Noise(seed)
		x := some(t, next)
		w := &world{h: x.heap(t, next), next: next}
		w.turns(t, 3)
		x.finish(t, w.h, func() {
			places[x.a.Where()]++
			w.turns(t, int(seed%3))
		})
		places[x.a.Where()]++
		why[x.last().Why]++
		for _, e := range x.steps {
			kinds[e.Kind]++
		}
	}
	enough(t, places, 50)
	if why[api.Held] < 30 || why[api.Newer] < 30 || why[api.Moved] < 30 || len(why) != 4 || len(kinds) != 5 {
		t.Fatal("too few, or one too many:", why, kinds)
	}
}

// P16.1: a transaction that reads what it has written, and the same variable twice: what was written is no Look, what was read is one each time.
func TestP16_1Twice(t *testing.T) {
	h := heaped(t, 2, 0, tens(4)...)
	x := fresh(t, 1, block(read(1, lit(2)), read(2, lit(2)), read(3, lit(0)), write(lit(2), lit(9)), read(4, lit(2)), read(5, lit(0)), leave(of(api.Add, local(2), local(4)))), 4, 2)
	x.row(t, h, "1 begin 0 0; 1 look 0 0; 1 load 2 30; 1 look 0 0; 1 load 2 30; 1 look 0 0; 1 load 0 10; -; -; 1 look 0 0")
	own(t, h, 0, 1)
	x.row(t, h, "1 load 0 10")
	x.ends(t, attempt.Ends, 39, []int{0}, pair(2, 9))
}

// P16.1: an OrElse: what its Body wrote is gone with a Retry, what it read stays read; without one all stays. A retry within none is the end.
func TestP16_1OrElse(t *testing.T) {
	h := heaped(t, 4, 0, tens(4)...)
	body := block(read(1, lit(1)), write(lit(3), lit(8)), either(local(0), block(retry()), nil))
	tx := block(set(0, lit(1)), write(lit(2), lit(7)), orElse(body, block(read(2, lit(3)), write(lit(0), local(1)))), leave(local(2)))
	x := fresh(t, 1, tx, 4, 4)
	x.row(t, h, "1 begin 0 0; -; -; -; 1 look 1 0; 1 load 1 20; -; -; -; 1 look 3 0; 1 load 3 40; -")
	x.ends(t, attempt.Ends, 40, []int{1, 3}, pair(0, 0), pair(2, 7))

	tx[0] = set(0, lit(0))
	x = fresh(t, 1, tx, 4, 4)
	x.row(t, h, "1 begin 0 0; -; -; -; 1 look 1 0; 1 load 1 20; -; -")
	x.ends(t, attempt.Ends, 0, []int{1}, pair(2, 7), pair(3, 8))

	x = fresh(t, 1, block(orElse(block(read(1, lit(1)), retry()), block(read(1, lit(2)), retry()))), 4, 4)
	x.row(t, h, "1 begin 0 0; -; 1 look 1 0; 1 load 1 20; -; 1 look 2 0; 1 load 2 30")
	x.ends(t, attempt.Retries, 0, []int{1, 2})
}

// R1: what New was handed stays, also behind its end, and may be changed then, at once or in the middle: the attempt, and its copy, go on as they would.
func TestR1Own(t *testing.T) {
	for seed := range uint64(400) {
		next := sample.Noise(seed + 1000)
		x := some(t, next)
		h := x.heap(t, next)
		tx, room := append(code.Copy(x.tx), leave(lit(93))), append(slices.Clone(x.got), 91, 92)
		a, e := attempt.New(x.thread, tx[:len(x.tx)], x.vars, x.stripes, room[:len(x.got)])
		hands(t, "New", e, api.OK)
		x.a = a
		for range next(20) {
			if !x.over() {
				x.step(t, h)
			}
		}
		c := x.copied(t)
		if !code.Same(tx, append(slices.Clone(x.tx), leave(lit(93)))) || !slices.Equal(room, append(slices.Clone(x.got), 91, 92)) {
			t.Fatalf("what was handed over is another one now: %+v, %v", tx, room)
		}
		sample.Spoil(tx)
		for n := range room {
			room[n] = -99
		}
		x.finish(t, h, nothing)
		c.finish(t, h, nothing)
	}
}
