package buffer_test

import (
	"fmt"
	"math"
	"slices"
	"testing"

	"seesaw/api"
	"seesaw/buffer"
	"seesaw/sample"
)

// P8.1: the chapter's examples.
func TestP8_1Examples(t *testing.T) {
	b := buffer.New()
	hands(t, "Put", b.Put(1, 5), api.OK)
	for _, merge := range []bool{false, true} {
		hands(t, "Push", b.Push(), api.OK)
		hands(t, "Put", b.Put(1, 7), api.OK)
		hands(t, "Put", b.Put(2, 8), api.OK)
		has(t, b, 1, 7)
		if merge {
			hands(t, "Merge", b.Merge(), api.OK)
			has(t, b, 1, 7)
			has(t, b, 2, 8)
			hands(t, "Drop", b.Drop(), api.ErrState)
		} else {
			hands(t, "Drop", b.Drop(), api.OK)
			has(t, b, 1, 5)
			lacks(t, b, 2)
		}
	}
	tells(t, b, api.Pair{At: 1, X: 7}, api.Pair{At: 2, X: 8})
}

// P8.1: a new one has one level without anything, and nothing of another one.
func TestP8_1New(t *testing.T) {
	a, b := buffer.New(), buffer.New()
	holds(t, a, plain{nil})
	hands(t, "Put", a.Put(3, 4), api.OK)
	hands(t, "Push", a.Push(), api.OK)
	holds(t, b, plain{nil})
	holds(t, buffer.New(), plain{nil})
	holds(t, a, plain{{{At: 3, X: 4}}, nil})
}

// P8.1: each variable, with each value; nothing else is there, and no variable is another one.
func TestP8_1Put(t *testing.T) {
	all := buffer.New()
	p := plain{nil}
	for i, v := range variables() {
		for _, x := range values() {
			b := buffer.New()
			lacks(t, b, v)
			hands(t, "Put", b.Put(v, x), api.OK)
			has(t, b, v, x)
			tells(t, b, api.Pair{At: v, X: x})
			holds(t, b, plain{{{At: v, X: x}}})
		}
		p = calls(t, all, p, call{'p', v, values()[i%len(values())]})
		holds(t, all, p)
	}
	for _, v := range variables() {
		for _, x := range values() {
			p = calls(t, all, p, call{'p', v, x})
		}
		holds(t, all, p)
	}
}

// P8.1: 0 is something: it is what is written, above another value, too.
func TestP8_1Zero(t *testing.T) {
	b := buffer.New()
	hands(t, "Put", b.Put(0, 0), api.OK)
	has(t, b, 0, 0)
	tells(t, b, api.Pair{})
	hands(t, "Put", b.Put(1, 5), api.OK)
	hands(t, "Push", b.Push(), api.OK)
	hands(t, "Put", b.Put(1, 0), api.OK)
	has(t, b, 1, 0)
	tells(t, b, api.Pair{}, api.Pair{At: 1})
	hands(t, "Merge", b.Merge(), api.OK)
	has(t, b, 1, 0)
	tells(t, b, api.Pair{}, api.Pair{At: 1})
}

// P8.1: a variable that just a lower level has, that both have, that just the higher one has, and that none has, at each value, ahead of and behind Push, Drop and Merge.
func TestP8_1Levels(t *testing.T) {
	const low, both, high, none = 1, 2, 3, 4
	for i, x := range values() {
		y := values()[(i+1)%len(values())]
		b := buffer.New()
		b.Put(both, x)
		b.Put(low, x)
		below := plain{{{At: both, X: x}, {At: low, X: x}}}
		holds(t, b, below)
		hands(t, "Push", b.Push(), api.OK)
		holds(t, b, below.push())
		hands(t, "Put", b.Put(high, y), api.OK)
		hands(t, "Put", b.Put(both, y), api.OK)
		has(t, b, low, x)
		has(t, b, both, y)
		has(t, b, high, y)
		lacks(t, b, none)
		c := b.Copy()
		hands(t, "Drop", b.Drop(), api.OK)
		has(t, b, low, x)
		has(t, b, both, x)
		lacks(t, b, high)
		lacks(t, b, none)
		holds(t, b, below)
		hands(t, "Merge", c.Merge(), api.OK)
		has(t, c, low, x)
		has(t, c, both, y)
		has(t, c, high, y)
		lacks(t, c, none)
		holds(t, c, below.put(high, y).put(both, y))
	}
}

// P8.1: a level that Push makes has nothing of what was in its place ahead of it.
func TestP8_1Anew(t *testing.T) {
	for _, name := range "-m" {
		b := buffer.New()
		p := calls(t, b, plain{nil}, call{name: 'p', v: 1, x: 1}, call{name: '+'}, call{name: 'p', v: 2, x: 2}, call{name: byte(name)}, call{name: '+'})
		holds(t, b, p)
		hands(t, "Put", b.Put(1, 3), api.OK)
		hands(t, "Drop", b.Drop(), api.OK)
		holds(t, b, p.drop())
	}
}

// P8.1: what is merged goes with the level below, or stays with it; it is not in the one below that.
func TestP8_1Below(t *testing.T) {
	for _, many := range []int{2, 3, 9} {
		for _, then := range "-m" {
			b := buffer.New()
			p := calls(t, b, plain{nil}, call{name: 'p', v: 1, x: 1})
			for i := range many {
				p = calls(t, b, p, call{name: '+'}, call{'p', i, int64(10 + i)})
			}
			for range many - 1 {
				p = calls(t, b, p, call{name: 'm'})
				holds(t, b, p)
			}
			deep(t, b, 2)
			p = calls(t, b, p, call{name: byte(then)})
			holds(t, b, p)
			if then == '-' {
				tells(t, b, api.Pair{At: 1, X: 1})
			}
		}
	}
}

// P8.1: levels of unlike sizes, with some variables in common, merged: the higher one's values, and what the lower one has beside.
func TestP8_1Merge(t *testing.T) {
	for lower := range 12 {
		for upper := range 12 {
			for from := range 13 {
				b := buffer.New()
				p := plain{nil}
				for v := range lower {
					p = calls(t, b, p, call{'p', v, -1})
				}
				p = calls(t, b, p, call{name: '+'})
				for v := range upper {
					p = calls(t, b, p, call{'p', from + v, int64(v)})
				}
				p = calls(t, b, p, call{name: 'm'})
				holds(t, b, p)
				holds(t, b, plain{p.all()})
				p = calls(t, b, p, call{name: '+'}, call{'p', from, 77}, call{'p', 0, 78}, call{name: '-'})
				holds(t, b, p)
			}
		}
	}
}

// P8.1: Drop and Merge of the lowest level alone change nothing, however it came to be alone.
func TestP8_1Refused(t *testing.T) {
	refused := func(b *buffer.Buffer, p plain) {
		t.Helper()
		for range 3 {
			hands(t, "Drop", b.Drop(), api.ErrState)
			holds(t, b, p)
			hands(t, "Merge", b.Merge(), api.ErrState)
			holds(t, b, p)
		}
	}
	refused(buffer.New(), plain{nil})
	for _, v := range variables() {
		b := buffer.Of(api.Pair{At: v, X: 3})
		p := plain{{{At: v, X: 3}}}
		refused(b, p)
		refused(b.Copy(), p)
		for _, row := range []string{"+-", "+m", "++--", "++-m", "++m-", "++mm", "+-+m"} {
			for _, name := range row {
				p = calls(t, b, p, call{'p', v, 4}, call{name: byte(name)}, call{'p', 9, 5})
				refused(buffer.New(), plain{nil})
			}
			refused(b, p)
			hands(t, "Put", b.Put(v, 6), api.OK)
			p = p.put(v, 6)
			refused(b, p)
			hands(t, "Push", b.Push(), api.OK)
			hands(t, "Drop", b.Drop(), api.OK)
			refused(b, p)
		}
	}
}

// P8.1, P8.2: of nil each call answers what the chapter says, and it stays nil.
func TestP8_1Nil(t *testing.T) {
	var b *buffer.Buffer
	for range 2 {
		for _, v := range variables() {
			hands(t, "Put of nil", b.Put(v, 1), api.ErrNil)
			lacks(t, b, v)
		}
		hands(t, "Push of nil", b.Push(), api.ErrNil)
		hands(t, "Drop of nil", b.Drop(), api.ErrNil)
		hands(t, "Merge of nil", b.Merge(), api.ErrNil)
		deep(t, b, 0)
		tells(t, b)
		if c := b.Copy(); c != nil {
			t.Fatal("Copy of nil:", c)
		}
	}
}

// R1: one that New has not made is as one that it has: there is always the lowest level.
func TestR1Bare(t *testing.T) {
	holds(t, new(buffer.Buffer), plain{nil})
	holds(t, new(buffer.Buffer).Copy(), plain{nil})
	for _, name := range "p+-m" {
		b, p := new(buffer.Buffer), plain{nil}
		p = calls(t, b, p, call{byte(name), 1, 2})
		holds(t, b, p)
		p = calls(t, b, p, call{'p', 3, 4}, call{name: '+'}, call{'p', 1, 5}, call{name: 'm'}, call{name: '-'})
		holds(t, b, p)
	}
}

// P8.1, P8.2: all rows of six calls of a few; each goes on from a copy, and what was copied stays.
func TestP8_1Rows(t *testing.T) {
	few := []call{{'p', 0, 1}, {'p', 0, 2}, {'p', 1, 0}, {name: '+'}, {name: '-'}, {name: 'm'}}
	var from func(b *buffer.Buffer, p plain, many int)
	from = func(b *buffer.Buffer, p plain, many int) {
		holds(t, b, p)
		if many == 0 {
			return
		}
		for _, c := range few {
			d := b.Copy()
			from(d, calls(t, d, p, c), many-1)
		}
		holds(t, b, p)
	}
	from(buffer.New(), plain{nil}, 6)
}

// P8.1, P8.2: long rows of any calls.
func TestP8_1Turns(t *testing.T) {
	for seed := range uint64(200) {
		next := sample.Noise(seed)
		b, p := buffer.New(), plain{nil}
		for range 100 {
			p = calls(t, b, p, some(next))
			holds(t, b, p)
		}
	}
}

// P8.2: levels are counted, up and down.
func TestP8_2Depth(t *testing.T) {
	b := buffer.New()
	for n := 1; n <= 300; n++ {
		deep(t, b, n)
		hands(t, "Put", b.Put(n, 1), api.OK)
		deep(t, b, n)
		hands(t, "Push", b.Push(), api.OK)
	}
	for n := 300; n >= 1; n-- {
		if n%2 == 0 {
			hands(t, "Drop", b.Drop(), api.OK)
		} else {
			hands(t, "Merge", b.Merge(), api.OK)
		}
		deep(t, b, n)
	}
}

// R1: as many levels as there may be, one put to each; all of them merged, or dropped, one behind the other.
func TestR1Deep(t *testing.T) {
	const many = 1 << 16
	b := buffer.New()
	for v := range many {
		hands(t, "Push", b.Push(), api.OK)
		hands(t, "Put", b.Put(many-v, int64(v)), api.OK)
		hands(t, "Put", b.Put(0, int64(v)), api.OK)
	}
	deep(t, b, many+1)
	has(t, b, many, 0)
	has(t, b, 0, many-1)
	lacks(t, b, -1)
	c, all := b.Copy(), b.All()
	if len(all) != many+1 || all[many] != (api.Pair{At: many}) || all[0] != (api.Pair{X: many - 1}) {
		t.Fatal(len(all))
	}
	for range many {
		hands(t, "Merge", b.Merge(), api.OK)
		hands(t, "Drop", c.Drop(), api.OK)
	}
	tells(t, b, all...)
	deep(t, b, 1)
	tells(t, c)
	deep(t, c, 1)
}

// P8.2: All of nothing is none, on each of several levels, too.
func TestP8_2AllNone(t *testing.T) {
	b := buffer.New()
	for range 5 {
		tells(t, b)
		hands(t, "Push", b.Push(), api.OK)
	}
	hands(t, "Put", b.Put(1, 1), api.OK)
	hands(t, "Drop", b.Drop(), api.OK)
	tells(t, b)
	hands(t, "Merge", b.Merge(), api.OK)
	tells(t, b)
}

// P8.2: All is by rising variables, whatever the row in which they were put, and to which levels.
func TestP8_2All(t *testing.T) {
	b := buffer.New()
	var want pairs
	for i, v := range variables() {
		want = append(want, api.Pair{At: v, X: int64(i)})
	}
	for i := range want {
		one := want[i*7%len(want)]
		hands(t, "Put", b.Put(one.At, one.X+1), api.OK)
		hands(t, "Push", b.Push(), api.OK)
		hands(t, "Put", b.Put(one.At, one.X), api.OK)
		if i%3 == 0 {
			hands(t, "Merge", b.Merge(), api.OK)
		}
	}
	tells(t, b, want...)
}

// R1: what All tells is new memory each time, with room behind it, too.
func TestR1AllNew(t *testing.T) {
	b := buffer.Of(api.Pair{At: 1, X: 2}, api.Pair{At: 3, X: 4})
	b.Push()
	b.Put(5, 6)
	was := b.All()
	kept := slices.Clone(was)
	other := b.All()
	for i := range other {
		other[i] = api.Pair{At: 9, X: 9}
	}
	other = append(other, api.Pair{At: 10, X: 10})
	tells(t, b, kept...)
	has(t, b, 1, 2)
	lacks(t, b, 9)
	lacks(t, b, 10)
	b.Put(1, 7)
	b.Merge()
	b.Put(4, 7)
	if !slices.Equal(was, kept) {
		t.Fatal("what was told is another one now:", was)
	}
}

// filled is a buffer of three levels, and what it must be.
func filled(t testing.TB) (*buffer.Buffer, plain) {
	b := buffer.New()
	return b, calls(t, b, plain{nil}, call{'p', 1, 10}, call{'p', 2, 20}, call{name: '+'}, call{'p', 2, 21}, call{'p', 3, 31}, call{name: '+'}, call{'p', 3, 32}, call{'p', 4, 42})
}

// P8.2: a copy of several levels has them all, and goes its own way: each of both is changed by each call, and by several, and the other one is as it was.
func TestP8_2Copy(t *testing.T) {
	for _, row := range []string{"", "p", "+", "-", "m", "+p", "-p", "mp", "--", "mm", "-m", "m-", "--p", "mmp", "p-p-p", "pmpmp", "---", "mmm"} {
		for turn := range 2 {
			b, p := filled(t)
			both := [2]*buffer.Buffer{b, b.Copy()}
			holds(t, both[1], p)
			then := p
			for i, name := range row {
				for v := range 6 {
					then = calls(t, both[turn], then, call{'p', v, int64(100*i + v)})
				}
				then = calls(t, both[turn], then, call{name: byte(name), v: 7, x: 70})
				holds(t, both[turn], then)
				holds(t, both[1-turn], p)
			}
			for range 3 { // also the levels below are as they were
				other := both[1-turn]
				p = calls(t, other, p, call{name: 'p', v: 8, x: 80}, call{name: '-'})
				holds(t, other, p)
				holds(t, both[turn], then)
			}
		}
	}
}

// P8.2: copies of copies, and of one without anything, each its own.
func TestP8_2Copies(t *testing.T) {
	a := buffer.New()
	b := a.Copy()
	c := b.Copy()
	for i, one := range []*buffer.Buffer{b, c, a} {
		holds(t, one, plain{nil})
		hands(t, "Put", one.Put(1, int64(i)), api.OK)
		hands(t, "Push", one.Push(), api.OK)
		hands(t, "Put", one.Put(i, 9), api.OK)
	}
	holds(t, b, plain{{{At: 1, X: 0}}, {{At: 0, X: 9}}})
	holds(t, c, plain{{{At: 1, X: 1}}, {{At: 1, X: 9}}})
	holds(t, a, plain{{{At: 1, X: 2}}, {{At: 2, X: 9}}})
	hands(t, "Merge", c.Merge(), api.OK)
	holds(t, c, plain{{{At: 1, X: 9}}})
	holds(t, b.Copy(), plain{{{At: 1, X: 0}}, {{At: 0, X: 9}}})
}

// P8.2: Of nothing, of one, of several, and of a variable twice: what was put last stands, on one level.
func TestP8_2Of(t *testing.T) {
	for _, l := range []pairs{
		nil, {}, {{}}, {{At: 1, X: 5}}, {{At: 1}}, {{At: -1, X: 5}, {At: -2, X: 6}}, {{At: 4, X: 40}, {At: 1, X: 10}},
		{{At: 1, X: 5}, {At: 1, X: 6}}, {{At: 1, X: 5}, {At: 1}}, {{At: 1, X: 5}, {At: 2, X: 7}, {At: 1, X: 6}, {At: 2, X: 8}, {At: 1, X: 5}},
		{{At: math.MaxInt, X: math.MinInt64}, {At: math.MinInt, X: math.MaxInt64}, {}},
	} {
		b := buffer.Of(l...)
		holds(t, b, plain{l})
		deep(t, b, 1)
		hands(t, "Drop", b.Drop(), api.ErrState)
		hands(t, "Merge", b.Merge(), api.ErrState)
		c := buffer.New()
		for _, one := range l {
			hands(t, "Put", c.Put(one.At, one.X), api.OK)
		}
		tells(t, c, b.All()...)
		hands(t, "Put", b.Put(1, 77), api.OK)
		holds(t, b, plain{l}.put(1, 77))
		holds(t, buffer.Of(l...), plain{l})
	}
	holds(t, buffer.Of(), plain{nil})
	tells(t, buffer.Of(api.Pair{At: 2, X: 1}, api.Pair{At: 2, X: 3}), api.Pair{At: 2, X: 3})
}

// P8.2, R1: what Of is handed stays, also behind its end, and the buffer stays where that is changed later.
func TestP8_2OfStays(t *testing.T) {
	room := pairs{{At: 3, X: 30}, {At: 1, X: 10}, {At: 3, X: 31}, {At: 8, X: 80}, {At: 9, X: 90}}
	l, was := room[:3], fmt.Sprint(room)
	b := buffer.Of(l...)
	p := plain{slices.Clone(l)}
	p = calls(t, b, p, call{'p', 1, 11}, call{name: '+'}, call{'p', 2, 20}, call{name: 'm'}, call{'p', 3, 33})
	if fmt.Sprint(room) != was {
		t.Fatal("what was handed over is another one now:", room)
	}
	holds(t, b, p)
	for i := range room {
		room[i] = api.Pair{At: i, X: -1}
	}
	holds(t, b, p)
}
