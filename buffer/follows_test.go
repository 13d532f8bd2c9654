package buffer_test

import (
	"cmp"
	"slices"
	"testing"

	"seesaw/api"
	"seesaw/buffer"
	"seesaw/sample"
)

// begun is a buffer of any levels, and what it must be.
func begun(t testing.TB, next sample.Next) (*buffer.Buffer, plain) {
	b, p := buffer.New(), plain{nil}
	for range next(20) {
		p = calls(t, b, p, some(next))
	}
	return b, p
}

// told is all that a buffer tells, of all its levels, which it loses then.
func told(t testing.TB, b *buffer.Buffer) []pairs {
	t.Helper()
	var all []pairs
	for n := b.Depth(); n > 0; n-- {
		deep(t, b, n)
		all = append(all, b.All())
		if e := b.Drop(); e == api.OK != (n > 1) {
			t.Fatal(n, e)
		}
	}
	return all
}

// alike tells that two buffers tell the same, of all their levels.
func alike(t testing.TB, a, b *buffer.Buffer) {
	t.Helper()
	x, y := told(t, a.Copy()), told(t, b.Copy())
	if !slices.EqualFunc(x, y, slices.Equal[pairs]) {
		t.Fatalf("%v; %v", x, y)
	}
}

// P8.3: whatever is put behind Push, and in levels above it: with Drop all is as it was.
func TestP8_3(t *testing.T) {
	for seed := range uint64(500) {
		next := sample.Noise(seed)
		b, p := begun(t, next)
		was := b.Copy()
		hands(t, "Push", b.Push(), api.OK)
		calls(t, b, p.push(), above(next, next(30))...)
		hands(t, "Drop", b.Drop(), api.OK)
		alike(t, b, was)
		holds(t, b, p)
	}
}

// P8.3: all levels above it dropped at once, one behind the other, it is as it was; one level fewer, and it is not.
func TestP8_3Levels(t *testing.T) {
	for many := 1; many <= 20; many++ {
		b, p := filled(t)
		for i := range many {
			hands(t, "Push", b.Push(), api.OK)
			hands(t, "Put", b.Put(i%5, int64(-1-i)), api.OK)
		}
		for i := many; i > 0; i-- {
			has(t, b, (i-1)%5, int64(-i))
			hands(t, "Drop", b.Drop(), api.OK)
		}
		holds(t, b, p)
	}
}

// P8.4: whatever is put behind Push: with Merge what is written is what it would be without the level, and so it is of the levels below.
func TestP8_4(t *testing.T) {
	for seed := range uint64(500) {
		next := sample.Noise(seed)
		b, p := begun(t, next)
		without := b.Copy()
		l := above(next, next(30))
		hands(t, "Push", b.Push(), api.OK)
		calls(t, b, p.push(), l...)
		hands(t, "Merge", b.Merge(), api.OK)
		p = calls(t, without, p, l...)
		alike(t, b, without)
		holds(t, b, p)
	}
}

// P8.4: many levels, one above the other, put to by turns, merged from the top: as if all of it had been put to one.
func TestP8_4Levels(t *testing.T) {
	for many := 1; many <= 20; many++ {
		b, without := buffer.New(), buffer.New()
		next := sample.Noise(uint64(many))
		for range many {
			hands(t, "Push", b.Push(), api.OK)
			for range next(9) {
				v, x := next(12), int64(next(100))
				hands(t, "Put", b.Put(v, x), api.OK)
				hands(t, "Put", without.Put(v, x), api.OK)
			}
		}
		for range many {
			hands(t, "Merge", b.Merge(), api.OK)
			tells(t, b, without.All()...)
		}
		alike(t, b, without)
	}
}

// P8.5: without Drop what is written of a variable is what was put last, whatever is pushed and merged between.
func TestP8_5(t *testing.T) {
	for seed := range uint64(300) {
		next := sample.Noise(seed)
		b, last := buffer.New(), map[int]int64{}
		for range 60 {
			c := some(next)
			switch c.name {
			case 'p':
				hands(t, "Put", b.Put(c.v, c.x), api.OK)
				last[c.v] = c.x
			case '+':
				hands(t, "Push", b.Push(), api.OK)
			default:
				b.Merge() // of the lowest level alone it changes nothing
			}
			if len(b.All()) != len(last) {
				t.Fatal(b.All(), last)
			}
			for v, x := range last {
				has(t, b, v, x)
			}
		}
	}
}

// rises tells that All rises, each variable once, with what Get tells, and that no other one of these has anything.
func rises(t testing.TB, b *buffer.Buffer, of ...int) {
	t.Helper()
	all := b.All()
	for i, one := range all {
		if i > 0 && all[i-1].At >= one.At {
			t.Fatal("not rising:", all)
		}
		has(t, b, one.At, one.X)
	}
	for _, v := range of {
		if _, is := slices.BinarySearchFunc(all, v, func(one api.Pair, v int) int { return cmp.Compare(one.At, v) }); !is {
			lacks(t, b, v)
		}
	}
}

// P8.6: All rises, each variable once, with what Get tells; no other variable has anything.
func TestP8_6(t *testing.T) {
	of := variables()
	for v := range 200 {
		of = append(of, v-100)
	}
	for seed := range uint64(200) {
		next := sample.Noise(seed)
		b, _ := begun(t, next)
		for range 40 {
			c := some(next)
			if next(3) == 0 {
				c.v = next(200) - 100
			}
			switch c.name {
			case 'p':
				b.Put(c.v, c.x)
			case '+':
				b.Push()
			case '-':
				b.Drop()
			case 'm':
				b.Merge()
			}
			rises(t, b, of...)
		}
	}
}

// P8.1, P8.2, R1: whatever calls fuzzing comes to, on two buffers by turns, one a copy of the other: each is what the chapter's words say.
func FuzzBuffer(f *testing.F) {
	f.Add("")
	f.Add("\x00\x00\x03\x04\x00\x00\x03\x00\x00\x00\x00\x04\x04\x00\x00\x01\x00\x00\x04\x00\x00\x02\x00\x00")
	f.Add("\x00\x03\x00\x00\x01\x01\x00\x05\x00\x00\x01\x01\x00\x02\x03\x04\x01\x01\x00\x00\x02\x02\x01\x01")
	f.Fuzz(func(t *testing.T, text string) {
		next := sample.Bytes(text)
		both, are := [2]*buffer.Buffer{buffer.New(), nil}, [2]plain{{nil}, nil}
		both[1], are[1] = both[0].Copy(), are[0]
		for range min(len(text), 200) {
			turn := next(2)
			if next(8) == 7 {
				both[1-turn], are[1-turn] = both[turn].Copy(), are[turn]
			}
			are[turn] = calls(t, both[turn], are[turn], some(next))
			holds(t, both[0], are[0])
			holds(t, both[1], are[1])
		}
		alike(t, both[0], both[0].Copy())
		l := slices.Concat(are[0]...)
		holds(t, buffer.Of(l...), plain{l})
	})
}
