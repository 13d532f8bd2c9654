package pack_test

import (
	"math"
	"reflect"
	"slices"
	"strings"
	"testing"

	"seesaw/api"
	"seesaw/code"
	"seesaw/pack"
	"seesaw/sample"
	"seesaw/setup"
	"seesaw/varint"
)

// P7.1: the chapter's example.
func TestP7_1Example(t *testing.T) {
	packs(t, api.Setup{Stripes: 1, Clock: 0, Tries: 1, Init: []int64{5}}, "\x01\x0a\x01\x00\x01\x00")
}

// P7.1: a setup's numbers, each in its place.
func TestP7_1Setup(t *testing.T) {
	x := api.Setup{Stripes: 2, Clock: 300, Tries: 7, Init: []int64{1, -2, 3}, Threads: []thread{{{retry()}, {}}, {}, {{retry(), retry()}}}}
	packs(t, x, bytesOf(t, "03 02 03 06 02 ac02 07 03 02 01 06 00 00 01 02 06 06"))
	x.Clock, x.Tries = api.MaxClock, api.MaxTries
	packs(t, x, bytesOf(t, "03 02 03 06 02 808080808020 e807 03 02 01 06 00 00 01 02 06 06"))
	x.Threads = nil
	packs(t, x, bytesOf(t, "03 02 03 06 02 808080808020 e807 00"))
}

// lone is the body of a setup of one thread, of a transaction of these bytes behind so many empty ones.
func lone(behind int, block string) string {
	return "\x02\x0e\x0f\x01\x05\x02\x01" + string([]byte{byte(behind + 1)}) + strings.Repeat("\x00", behind) + block
}

// P7.1: each Kind has just the parts that the chapter names for it.
func TestP7_1Kinds(t *testing.T) {
	for _, x := range []struct {
		s    api.Stmt
		want string
	}{
		{set(3, lit(1)), "01 03 0102"},
		{set(0, got(0)), "01 00 0300"},
		{read(7, local(2)), "02 07 0202"},
		{read(0, lit(0)), "02 00 0100"},
		{write(lit(0), lit(-1)), "03 0100 0101"},
		{write(local(1), got(0)), "03 0201 0300"},
		{branch(local(5), nil, nil), "04 0205 00 00"},
		{branch(local(5), retries(1), nil), "04 0205 01 06 00"},
		{branch(local(5), nil, retries(2)), "04 0205 00 02 06 06"},
		{branch(lit(1), block(set(1, lit(2))), block(leave(lit(3)))), "04 0102 01 01 01 0104 01 08 0106"},
		{loop(lit(2)), "05 0104 00"},
		{loop(lit(2), retry(), leave(local(0))), "05 0104 02 06 08 0200"},
		{retry(), "06"},
		{orElse(nil, nil), "07 00 00"},
		{orElse(retries(1), nil), "07 01 06 00"},
		{orElse(nil, retries(2)), "07 00 02 06 06"},
		{orElse(block(leave(lit(5))), block(read(1, lit(6)))), "07 01 08 010a 01 02 01 010c"},
		{leave(got(0)), "08 0300"},
	} {
		b := bytesOf(t, x.want)
		packs(t, one(1, x.s), lone(1, "\x01"+b))
		packs(t, one(1, retry(), x.s, retry()), lone(1, "\x03\x06"+b+"\x06"))
		packs(t, one(1, orElse(nil, block(x.s))), lone(1, "\x01\x07\x00\x01"+b))
	}
}

// P7.1: each Op has just the parts that the chapter names for it.
func TestP7_1Ops(t *testing.T) {
	is := func(behind int, e api.Expr, want string) {
		t.Helper()
		b := bytesOf(t, want)
		packs(t, one(behind, leave(e)), lone(behind, "\x01\x08"+b))
		packs(t, one(behind, set(1, add(api.Mul, e, lit(1)))), lone(behind, "\x01\x01\x01\x06"+b+"\x01\x02"))
		packs(t, one(behind, write(add(api.Less, lit(1), e), e)), lone(behind, "\x01\x03\x07\x01\x02"+b+b))
	}
	for n, want := range map[int64]string{0: "00", 1: "02", -1: "01", 2: "04", -2: "03", 63: "7e", -64: "7f", 64: "8001", -65: "8101", 150: "ac02", math.MaxInt64: "feffffffffffffffff01", math.MinInt64: "ffffffffffffffffff01"} {
		is(0, lit(n), "01"+want)
	}
	for n := range api.MaxLocals {
		is(0, local(int64(n)), "02 0"+string([]byte{'0' + byte(n)}))
	}
	for n := range api.MaxTx - 1 {
		for behind := n + 1; behind < api.MaxTx; behind++ {
			is(behind, got(int64(n)), "03 0"+string([]byte{'0' + byte(n)}))
		}
	}
	for op, want := range map[uint8]string{api.Add: "04", api.Sub: "05", api.Mul: "06", api.Less: "07", api.Equal: "08"} {
		is(0, add(op, lit(5), local(6)), want+"010a 0206")
		is(0, add(op, local(6), lit(5)), want+"0206 010a")
		is(2, add(op, add(api.Sub, got(1), lit(1)), local(0)), want+"05 0301 0102 0200")
		is(2, add(op, local(0), add(api.Sub, lit(1), got(1))), want+"0200 05 0102 0301")
	}
}

// P7.1: values that variables begin with: of all widths, below 0 and above.
func TestP7_1Init(t *testing.T) {
	values := []int64{0, 1, -1, 5, -5, 63, 64, -64, -65, math.MaxInt64, math.MaxInt64 - 1, math.MinInt64, math.MinInt64 + 1}
	for i := range 63 {
		values = append(values, 1<<i, -1<<i, 1<<i-1)
	}
	for _, x := range values {
		b := varint.Put(varint.Zig(x))
		packs(t, api.Setup{Stripes: 1, Tries: 1, Init: []int64{x}}, "\x01"+b+"\x01\x00\x01\x00")
		packs(t, api.Setup{Stripes: 3, Tries: 1, Init: []int64{7, x, x}}, "\x03\x0e"+b+b+"\x03\x00\x01\x00")
	}
	for vars := 1; vars <= api.MaxVars; vars++ {
		for stripes := 1; stripes <= vars; stripes++ {
			x := api.Setup{Stripes: stripes, Tries: 1, Init: slices.Repeat([]int64{-3}, vars)}
			packs(t, x, varint.Put(uint64(vars))+strings.Repeat("\x05", vars)+varint.Put(uint64(stripes))+"\x00\x01\x00")
		}
	}
}

// P7.1: no threads, threads of no transactions, and transactions of no statements, up to as many as there may be; no list is as one of nothing.
func TestP7_1Empty(t *testing.T) {
	const numbers = "\x02\x0e\x0f\x01\x05\x02"
	packs(t, running(), numbers+"\x00")
	packs(t, running([]thread{}...), numbers+"\x00")
	for many := range api.MaxThreads + 1 {
		count := string([]byte{byte(many)})
		packs(t, running(make([]thread, many)...), numbers+count+strings.Repeat("\x00", many))
		packs(t, running(slices.Repeat([]thread{{}}, many)...), numbers+count+strings.Repeat("\x00", many))
		packs(t, running(make(thread, many)), numbers+"\x01"+count+strings.Repeat("\x00", many))
		packs(t, running(nil, slices.Repeat(thread{{}}, many), nil), numbers+"\x03\x00"+count+strings.Repeat("\x00", many)+"\x00")
	}
	packs(t, one(0, branch(lit(1), tx{}, tx{}), loop(lit(1), tx{}...)), lone(0, "\x02\x04\x01\x02\x00\x00\x05\x01\x02\x00"))
}

// nests are how a block stands in another one: a statement around it, and the bytes ahead of it and behind.
func nests() []struct {
	around        func(l tx) api.Stmt
	ahead, behind string
} {
	return []struct {
		around        func(l tx) api.Stmt
		ahead, behind string
	}{
		{func(l tx) api.Stmt { return branch(lit(1), l, nil) }, "\x04\x01\x02", "\x00"},
		{func(l tx) api.Stmt { return branch(lit(1), retries(1), l) }, "\x04\x01\x02\x01\x06", ""},
		{func(l tx) api.Stmt { return loop(local(1), l...) }, "\x05\x02\x01", ""},
		{func(l tx) api.Stmt { return orElse(l, nil) }, "\x07", "\x00"},
		{func(l tx) api.Stmt { return orElse(nil, l) }, "\x07\x00", ""},
	}
}

// nested is a block in as many others, each by a way of nests, and the bytes ahead of it and behind.
func nested(ways []int, in tx) (l tx, ahead, behind string) {
	all := nests()
	for _, i := range ways {
		in, ahead, behind = block(all[i].around(in)), "\x01"+all[i].ahead+ahead, behind+all[i].behind
	}
	return in, ahead, behind
}

// ways are all rows of so many numbers below most.
func ways(many, most int) [][]int {
	l := [][]int{nil}
	for range many {
		var next [][]int
		for _, w := range l {
			for i := range most {
				next = append(next, append(slices.Clone(w), i))
			}
		}
		l = next
	}
	return l
}

// P7.1: blocks one in the other up to MaxNest.
func TestP7_1Blocks(t *testing.T) {
	for many := range api.MaxNest {
		for _, w := range ways(many, len(nests())) {
			l, ahead, behind := nested(w, retries(1))
			b := lone(0, ahead+"\x01\x06"+behind)
			if code.May(l, 0) {
				packs(t, one(0, l...), b)
				continue
			}
			form(t, one(0, l...)) // turns of loops one in the other cost too much
			wrong(t, b, len(b), api.ErrForm)
		}
	}
}

// P7.1: blocks that are deeper than MaxNest: without statements they may be; else they are refused at the number of statements.
func TestP7_1DeepBlocks(t *testing.T) {
	for i, w := range ways(api.MaxNest, len(nests())) {
		if i%7 != 0 || len(nests()[w[0]].ahead) > 4 { // not one that has statements ahead of the block, as deep as it
			continue
		}
		l, ahead, behind := nested(w, nil)
		at := len(lone(0, ahead))
		if b := lone(0, ahead+"\x00"+behind); code.May(l, 0) {
			packs(t, one(0, l...), b)
		} else {
			wrong(t, b, len(b), api.ErrForm)
		}
		for _, more := range []string{"\x01\x06", "\x28" + strings.Repeat("\x06", 40), "\x01", "\x02\x09\x80"} {
			wrong(t, lone(0, ahead+more+behind), at, api.ErrTooLarge)
		}
		wrong(t, lone(0, ahead+"\x29"+behind), at, api.ErrRange)
		wrong(t, lone(0, ahead+"\x80\x00"+behind), at, api.ErrWide)
		wrong(t, lone(0, ahead), at, api.ErrShort)
		l, _, _ = nested(w, retries(1))
		form(t, one(0, l...))
	}
}

// towers are expressions of so many in a row, and their bytes: the deep one on the one side, on the other, and on both.
func towers(deep int) (l []api.Expr, bytes []string) {
	if deep == 1 {
		return []api.Expr{lit(1), local(7)}, []string{"\x01\x02", "\x02\x07"}
	}
	op := api.Add + uint8(deep%5)
	in, b := towers(deep - 1)
	for i, e := range in {
		l = append(l, add(op, e, lit(2)), add(op, lit(2), e))
		bytes = append(bytes, string([]byte{op})+b[i]+"\x01\x04", string([]byte{op})+"\x01\x04"+b[i])
	}
	last := len(in) - 1
	return append(l, add(op, in[0], in[last])), append(bytes, string([]byte{op})+b[0]+b[last])
}

// P7.1: expressions as deep as they may be, and, at the Op, what is deeper, whatever Op that is.
func TestP7_1Exprs(t *testing.T) {
	for deep := 1; deep <= api.MaxNest+1; deep++ {
		l, bytes := towers(deep)
		for i, e := range l {
			if deep <= api.MaxNest {
				packs(t, one(0, leave(e)), lone(0, "\x01\x08"+bytes[i]))
				packs(t, one(0, write(lit(0), e)), lone(0, "\x01\x03\x01\x00"+bytes[i]))
				packs(t, one(0, loop(lit(0), branch(e, nil, nil))), lone(0, "\x01\x05\x01\x00\x01\x04"+bytes[i]+"\x00\x00"))
				continue
			}
			form(t, one(0, leave(e)))
			if e := again(t, framed(t, lone(0, "\x01\x08"+bytes[i]))); e != api.ErrTooLarge {
				t.Fatalf("%s: %v", shown(bytes[i]), e)
			}
		}
	}
	ahead := lone(0, "\x01\x08"+strings.Repeat("\x04", api.MaxNest))
	for op := range byte(12) {
		want := api.ErrTooLarge
		if op == 0 || op > api.Equal {
			want = api.ErrRange
		}
		wrong(t, ahead+string([]byte{op}), len(ahead), want)
		wrong(t, ahead+string([]byte{op, 0}), len(ahead), want)
		second := ahead[:len(ahead)-1] + "\x01\x00\x04" // the deep one stands in the second of two
		wrong(t, second+string([]byte{op}), len(second), want)
	}
	wrong(t, ahead, len(ahead), api.ErrShort)
	wrong(t, ahead+"\x81\x00", len(ahead), api.ErrWide)
}

// P7.1: setups that may not be have no bytes: each number just beyond, and far beyond.
func TestP7_1EncodeNumbers(t *testing.T) {
	x := one(1, retry())
	for _, turn := range []func(x *api.Setup){
		func(x *api.Setup) { x.Init = nil },
		func(x *api.Setup) { x.Init = []int64{} },
		func(x *api.Setup) { x.Init = make([]int64, api.MaxVars+1) },
		func(x *api.Setup) { x.Stripes = 0 },
		func(x *api.Setup) { x.Stripes = -1 },
		func(x *api.Setup) { x.Stripes = 3 },
		func(x *api.Setup) { x.Stripes = 1<<32 + 1 },
		func(x *api.Setup) { x.Clock = -1 },
		func(x *api.Setup) { x.Clock = api.MaxClock + 1 },
		func(x *api.Setup) { x.Clock = math.MinInt },
		func(x *api.Setup) { x.Tries = 0 },
		func(x *api.Setup) { x.Tries = -1 },
		func(x *api.Setup) { x.Tries = api.MaxTries + 1 },
		func(x *api.Setup) { x.Threads = make([]thread, api.MaxThreads+1) },
		func(x *api.Setup) { x.Threads = append(x.Threads, make(thread, api.MaxTx+1)) },
	} {
		y := setup.Copy(x)
		turn(&y)
		form(t, y)
		encoded(t, x)
	}
	form(t, api.Setup{})
}

// P7.1: nor have those with a transaction that may not be, wherever it stands.
func TestP7_1EncodeBad(t *testing.T) {
	bad := append(sample.Bad(), tx{set(-1, lit(1))}, tx{leave(local(8))}, tx{leave(local(-1))}, tx{leave(got(-1))}, tx{leave(api.Expr{})}, tx{{Kind: api.Retry, To: 1}}, tx{{Kind: api.Retry, Else: retries(1)}}, tx{leave(add(api.Lit, lit(1), lit(2)))}, tx{leave(api.Expr{Op: api.Add, N: 1, Args: []api.Expr{lit(1), lit(2)}})}, tx{leave(api.Expr{Op: api.Add, Args: []api.Expr{lit(1)}})})
	for _, b := range bad {
		for behind := range api.MaxTx {
			form(t, one(behind, b...))
			form(t, running(thread{retries(1)}, append(make(thread, behind), b), nil))
		}
	}
	for n := range api.MaxTx {
		for asked := n; asked < api.MaxTx; asked++ {
			form(t, one(n, leave(got(int64(asked)))))
		}
	}
	round := block(orElse(nil, nil))
	round[0].Body = round
	form(t, one(0, round...))
}

// P7.1: of setups of any kind just those have bytes that may be.
func TestP7_1EncodeWild(t *testing.T) {
	next, may, not := noise(71), 0, 0
	for range 3000 {
		x := sample.Wild(next)
		if setup.Check(x) != api.OK {
			form(t, x)
			not++
			continue
		}
		packs(t, x, fields(x).body())
		may++
	}
	if may < 30 || not < 1000 {
		t.Fatal("too few", may, not)
	}
}

// P7.1: the setup that is told shares no memory with another one that is, nor do two lists of it.
func TestP7_1New(t *testing.T) {
	for _, x := range setups() {
		s := encoded(t, x)
		a, _, _ := pack.Decode(s)
		b, _, _ := pack.Decode(s)
		apart(t, a, b)
	}
}

// apart tells that no two lists of setups share memory, the room behind them counted.
func apart(t *testing.T, l ...api.Setup) {
	t.Helper()
	seen := map[any]bool{}
	var expr func(e api.Expr)
	var stmts func(l []api.Stmt)
	expr = func(e api.Expr) {
		each(t, seen, e.Args)
		for _, a := range e.Args {
			expr(a)
		}
	}
	stmts = func(l []api.Stmt) {
		each(t, seen, l)
		for _, s := range l {
			expr(s.A)
			expr(s.B)
			stmts(s.Body)
			stmts(s.Else)
		}
	}
	for _, s := range l {
		each(t, seen, s.Init)
		each(t, seen, s.Threads)
		for _, one := range s.Threads {
			each(t, seen, one)
			for _, x := range one {
				stmts(x)
			}
		}
	}
}

// each tells that nothing of a list was seen.
func each[T any](t *testing.T, seen map[any]bool, l []T) {
	t.Helper()
	l = l[:cap(l)]
	for i := range l {
		if seen[&l[i]] {
			t.Fatal("lists share memory")
		}
		seen[&l[i]] = true
	}
}

// R1: what is handed in stays, also behind the ends of its lists.
func TestR1Stays(t *testing.T) {
	for _, x := range append(setups(), one(0, sample.Bad()[0]...)) {
		x.Init = append(slices.Clone(x.Init), 99)[:len(x.Init)]
		was := setup.Copy(x)
		first, e := pack.Encode(x)
		if !reflect.DeepEqual(x, was) || x.Init[:len(x.Init)+1][len(x.Init)] != 99 {
			t.Fatalf("%v became %v", was, x)
		}
		if again, f := pack.Encode(x); again != first || e != f {
			t.Fatalf("Encode of %v: %s, %v, then %s, %v", x, shown(first), e, shown(again), f)
		}
	}
}
