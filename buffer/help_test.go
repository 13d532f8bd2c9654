package buffer_test

import (
	"cmp"
	"math"
	"slices"
	"testing"

	"seesaw/api"
	"seesaw/buffer"
	"seesaw/sample"
)

// pairs are variables with values, one behind the other.
type pairs = []api.Pair

// variables are those at which something might go wrong, by rising.
func variables() []int {
	return []int{math.MinInt, math.MinInt + 1, -1 << 32, -33, -2, -1, 0, 1, 2, 31, 32, 33, 1 << 32, math.MaxInt - 1, math.MaxInt}
}

// values are those at which something might go wrong.
func values() []int64 {
	return []int64{0, 1, -1, 5, 1 << 32, -1 << 32, math.MaxInt64, math.MinInt64}
}

// plain is the chapter's words a second time: of each level what was put, the lowest one first.
type plain [][]api.Pair

// get is what is written of a variable: what was put last to the highest level that has it.
func (p plain) get(v int) (int64, bool) {
	for _, l := range slices.Backward(p) {
		for _, one := range slices.Backward(l) {
			if one.At == v {
				return one.X, true
			}
		}
	}
	return 0, false
}

// all is what is written, by rising variables.
func (p plain) all() pairs {
	var all pairs
	for _, one := range slices.Concat(p...) {
		x, _ := p.get(one.At)
		all = append(all, api.Pair{At: one.At, X: x})
	}
	slices.SortFunc(all, func(a, b api.Pair) int { return cmp.Compare(a.At, b.At) })
	return slices.Compact(all)
}

// put, push, drop and merge are what is there then; what was there stays.
func (p plain) put(v int, x int64) plain {
	p, last := slices.Clone(p), len(p)-1
	p[last] = append(slices.Clip(p[last]), api.Pair{At: v, X: x})
	return p
}

func (p plain) push() plain { return append(slices.Clip(p), nil) }

func (p plain) drop() plain { return p[:len(p)-1] }

func (p plain) merge() plain {
	last := len(p) - 1
	return append(slices.Clip(p[:last-1]), slices.Concat(p[last-1], p[last]))
}

// call is one that changes a buffer.
type call struct {
	name byte // of Put, Push, Drop, Merge: p + - m
	v    int
	x    int64
}

// do does it, and tells what a buffer must be then that was as p says, and what must be answered.
func (c call) do(b *buffer.Buffer, p plain) (is, want api.Errno, then plain) {
	switch c.name {
	case 'p':
		return b.Put(c.v, c.x), api.OK, p.put(c.v, c.x)
	case '+':
		return b.Push(), api.OK, p.push()
	}
	does, becomes := b.Drop, plain.drop
	if c.name == 'm' {
		does, becomes = b.Merge, plain.merge
	}
	if len(p) == 1 {
		return does(), api.ErrState, p
	}
	return does(), api.OK, becomes(p)
}

// calls does them one behind the other.
func calls(t testing.TB, b *buffer.Buffer, p plain, l ...call) plain {
	t.Helper()
	for i, c := range l {
		is, want, then := c.do(b, p)
		if is != want {
			t.Fatalf("%c of %d, %d behind %v: %v; want %v", c.name, c.v, c.x, l[:i], is, want)
		}
		p = then
	}
	return p
}

// some is any call, of a few variables.
func some(next sample.Next) call {
	c := call{name: "ppp+-m"[next(6)], v: next(6) - 2, x: int64(next(5) - 2)}
	if next(4) == 0 {
		c.v = variables()[next(len(variables()))]
	}
	if next(4) == 0 {
		c.x = values()[next(len(values()))]
	}
	return c
}

// above is a row of calls that does not go below the level where it begins, and so many calls long; then as often again what ends its own levels.
func above(next sample.Next, many int) []call {
	var l []call
	deep := 0
	for range many {
		c := some(next)
		switch c.name {
		case '+':
			deep++
		case '-', 'm':
			if deep == 0 {
				c.name = 'p'
			} else {
				deep--
			}
		}
		l = append(l, c)
	}
	for range deep {
		l = append(l, call{name: "-m"[next(2)]})
	}
	return l
}

// holds tells that a buffer is just as p says.
func holds(t testing.TB, b *buffer.Buffer, p plain) {
	t.Helper()
	if n := b.Depth(); n != len(p) {
		t.Fatalf("Depth of %v: %d", p, n)
	}
	if l := b.All(); !slices.Equal(l, p.all()) {
		t.Fatalf("All of %v: %v", p, l)
	}
	for v := -3; v <= 4; v++ {
		gets(t, b, p, v)
	}
	for _, v := range variables() {
		gets(t, b, p, v)
	}
	for _, one := range slices.Concat(p...) {
		gets(t, b, p, one.At)
	}
}

// gets tells that what is written of a variable is what p says.
func gets(t testing.TB, b *buffer.Buffer, p plain, v int) {
	t.Helper()
	x, is := b.Get(v)
	if wx, wis := p.get(v); x != wx || is != wis {
		t.Fatalf("Get of %d of %v: %d, %v; want %d, %v", v, p, x, is, wx, wis)
	}
}

// hands tells that a call answers just this.
func hands(t testing.TB, name string, is, want api.Errno) {
	t.Helper()
	if is != want {
		t.Fatalf("%s: %v; want %v", name, is, want)
	}
}

// has tells that just this is written of a variable.
func has(t testing.TB, b *buffer.Buffer, v int, want int64) {
	t.Helper()
	if x, is := b.Get(v); x != want || !is {
		t.Fatalf("Get of %d: %d, %v; want %d", v, x, is, want)
	}
}

// lacks tells that nothing is written of a variable.
func lacks(t testing.TB, b *buffer.Buffer, v int) {
	t.Helper()
	if x, is := b.Get(v); x != 0 || is {
		t.Fatalf("Get of %d: %d, %v; want nothing", v, x, is)
	}
}

// tells tells that just this is written.
func tells(t testing.TB, b *buffer.Buffer, want ...api.Pair) {
	t.Helper()
	if l := b.All(); !slices.Equal(l, want) {
		t.Fatalf("All: %v; want %v", l, want)
	}
}

// deep tells how many levels there are.
func deep(t testing.TB, b *buffer.Buffer, want int) {
	t.Helper()
	if n := b.Depth(); n != want {
		t.Fatalf("Depth: %d; want %d", n, want)
	}
}
