package bytes_test

import (
	"math"
	"strings"
	"testing"

	"seesaw/api"
	"seesaw/bytes"
	"seesaw/varint"
)

// P2.2: the chapter's examples.
func TestP2_2Example(t *testing.T) {
	r := reader(t, "\xac\x02\x01\x61\x62", 0)
	n, e := r.Num(300)
	answers(t, n, e, 300)
	stands(t, r, 2, 3)
	x, e := r.Int()
	answers(t, x, e, -1)
	stands(t, r, 3, 2)
	s, e := r.Raw(2)
	answers(t, s, e, "ab")
	stands(t, r, 5, 0)
	if e := r.End(); e != api.OK {
		t.Error(e)
	}

	r = reader(t, "\x80", 0)
	n, e = r.Num(math.MaxUint64)
	refuses(t, n, e, api.ErrShort)
	broke(t, r, 0, 1, api.ErrShort)
	b, e := r.Byte()
	refuses(t, b, e, api.ErrShort)
	broke(t, r, 0, 1, api.ErrShort)
}

// P2.2: each byte as a byte, and as a text.
func TestP2_2Bytes(t *testing.T) {
	for i := range 256 {
		s := string([]byte{byte(i)})
		r := reader(t, s+s, 0)
		b, e := r.Byte()
		answers(t, b, e, byte(i))
		stands(t, r, 1, 1)
		p, e := r.Raw(1)
		answers(t, p, e, s)
		stands(t, r, 2, 0)
	}
}

// P2.2: numbers, with just the bound that they need, and whole numbers.
func TestP2_2Numbers(t *testing.T) {
	for _, n := range numbers() {
		s := varint.Put(n)
		for _, most := range []uint64{n, math.MaxUint64} {
			r := reader(t, "##"+s+"\xff", 2)
			m, e := r.Num(most)
			answers(t, m, e, n)
			stands(t, r, 2+len(s), 1)
		}
		r := reader(t, "##"+s+"\xff", 2)
		x, e := r.Int()
		answers(t, x, e, varint.Zag(n))
		stands(t, r, 2+len(s), 1)
	}
}

// P2.2: NewReader's error, and a text that is just no longer than it may be.
func TestP2_2NewReader(t *testing.T) {
	long := strings.Repeat("x", api.MaxBytes+1)
	if r, e := bytes.NewReader(long); r != nil || e != api.ErrTooLarge {
		t.Errorf("%v, %v", r, e)
	}
	r := reader(t, long[1:], 0)
	s, e := r.Raw(api.MaxBytes)
	answers(t, s, e, long[1:])
	stands(t, r, api.MaxBytes, 0)
}

// P2.2: a nil reader, whatever is asked.
func TestP2_2Nil(t *testing.T) {
	var r *bytes.Reader
	for _, c := range calls() {
		if s, e := c.do(r); s != "" || e != api.ErrNil {
			t.Errorf("%s: %q, %v", c.name, s, e)
		}
		if place, e := r.Wrong(); r.At() != 0 || r.Left() != 0 || place != 0 || e != api.ErrNil {
			t.Errorf("%s: %d, %d, %d, %v", c.name, r.At(), r.Left(), place, e)
		}
	}
}

// wrongs are texts, each with a call that is refused there: each error of each call, those ahead of others first.
func wrongs() []struct {
	s    string
	c    call
	want api.Errno
} {
	nine := strings.Repeat("\x80", 9)
	return []struct {
		s    string
		c    call
		want api.Errno
	}{
		{"", callByte(), api.ErrShort},

		{"", callNum(0), api.ErrShort},
		{"\x80", callNum(0), api.ErrShort},
		{"\xff\xff\xff", callNum(0), api.ErrShort},
		{nine + "\x02", callNum(math.MaxUint64), api.ErrRange},
		{strings.Repeat("\x80", 11), callNum(math.MaxUint64), api.ErrRange},
		{"\x80\x00", callNum(0), api.ErrWide},
		{"\xff\x00", callNum(1), api.ErrWide},
		{nine + "\x00", callNum(math.MaxUint64), api.ErrWide},
		{"\x01", callNum(0), api.ErrRange},
		{"\x7f", callNum(126), api.ErrRange},
		{"\xac\x02", callNum(299), api.ErrRange},
		{strings.Repeat("\xff", 9) + "\x01", callNum(math.MaxUint64 - 1), api.ErrRange},
		{strings.Repeat("\xff", 9) + "\x01", callNum(math.MaxInt64), api.ErrRange},

		{"", callInt(), api.ErrShort},
		{"\xff", callInt(), api.ErrShort},
		{nine + "\x02", callInt(), api.ErrRange},
		{nine + "\x80", callInt(), api.ErrRange},
		{"\x81\x00", callInt(), api.ErrWide},

		{"", callRaw(-1), api.ErrArg},
		{"abc", callRaw(-1), api.ErrArg},
		{"abc", callRaw(math.MinInt), api.ErrArg},
		{"", callRaw(1), api.ErrShort},
		{"abc", callRaw(4), api.ErrShort},
		{"abc", callRaw(math.MaxInt), api.ErrShort},

		{"\x00", callEnd(), api.ErrLong},
		{"abc", callEnd(), api.ErrLong},
	}
}

// P2.2: each error of each call, at its beginning and behind other bytes; then each call answers that, and stays.
func TestP2_2Wrong(t *testing.T) {
	for _, x := range wrongs() {
		for _, ahead := range []string{"", "a", "\x80\x80\x80"} {
			for _, next := range calls() {
				r := reader(t, ahead+x.s, len(ahead))
				for _, c := range []call{x.c, next, next, x.c} {
					if s, e := c.do(r); s != "" || e != x.want {
						t.Fatalf("%s of % x, then %s: % x, %v; want %v", x.c.name, x.s, next.name, s, e, x.want)
					}
					broke(t, r, len(ahead), len(x.s), x.want)
				}
			}
		}
	}
}

// P2.2: what is just not wrong.
func TestP2_2Just(t *testing.T) {
	for _, x := range []struct {
		s    string
		c    call
		size int
	}{
		{"a", callByte(), 1}, {"\x00\x80", callNum(0), 1}, {"\x00", callInt(), 1},
		{"", callRaw(0), 0}, {"abc", callRaw(0), 0}, {"abc", callRaw(3), 3}, {"", callEnd(), 0},
		{strings.Repeat("\xff", 9) + "\x01", callNum(math.MaxUint64), 10},
		{strings.Repeat("\xff", 9) + "\x01", callInt(), 10},
	} {
		r := reader(t, "#"+x.s, 1)
		if s, e := x.c.do(r); s != x.s[:x.size] || e != api.OK {
			t.Errorf("%s of % x: % x, %v", x.c.name, x.s, s, e)
		}
		stands(t, r, 1+x.size, len(x.s)-x.size)
	}
}

// P2.2: Fail goes back, to each place that was come to, whatever the error is; it stays.
func TestP2_2Fail(t *testing.T) {
	for place := range 4 {
		for _, e := range []api.Errno{api.ErrArg, api.ErrNil, api.ErrForm, api.ErrShort, api.ErrRange, api.ErrDiverged, -1, 1000} {
			r := reader(t, "\x80\x01\x02\x03\x04", 3)
			if got := r.Fail(place, e); got != e {
				t.Fatalf("Fail of %d, %v: %v", place, e, got)
			}
			broke(t, r, place, 5-place, e)
			for _, c := range calls() {
				if s, got := c.do(r); s != "" || got != e {
					t.Fatalf("%s behind Fail of %v: % x, %v", c.name, e, s, got)
				}
				broke(t, r, place, 5-place, e)
			}
		}
	}
}

// P2.2: Fail at the end, and of no bytes.
func TestP2_2FailEdges(t *testing.T) {
	r := reader(t, "", 0)
	if e := r.Fail(0, api.ErrForm); e != api.ErrForm {
		t.Error(e)
	}
	broke(t, r, 0, 0, api.ErrForm)
	r = reader(t, "ab", 2)
	if r.End() != api.OK || r.Fail(2, api.ErrSum) != api.ErrSum || r.End() != api.ErrSum {
		t.Error("at its end")
	}
	broke(t, r, 2, 0, api.ErrSum)
}

// P2.2: what Fail refuses, and that nothing is wrong by that: what stands there is read still.
func TestP2_2FailRefused(t *testing.T) {
	for _, x := range []struct {
		place int
		e     api.Errno
	}{
		{-1, api.ErrForm}, {math.MinInt, api.ErrForm}, {3, api.ErrForm}, {5, api.ErrForm}, {6, api.ErrForm}, {math.MaxInt, api.ErrForm},
		{0, api.OK}, {2, api.OK}, {-1, api.OK}, {3, api.OK},
	} {
		r := reader(t, "ab\x01\x02\x03", 2)
		if e := r.Fail(x.place, x.e); e != api.ErrArg {
			t.Errorf("Fail of %d, %v: %v", x.place, x.e, e)
		}
		stands(t, r, 2, 3)
		n, e := r.Num(1)
		answers(t, n, e, 1)
		if e := r.Fail(3, api.ErrForm); e != api.ErrForm {
			t.Error(e)
		}
		broke(t, r, 3, 2, api.ErrForm)
	}
}

// P2.2: readers of one text share nothing.
func TestP2_2Apart(t *testing.T) {
	s := "\x01\x02"
	q, r := reader(t, s, 0), reader(t, s, 1)
	if e := q.Fail(0, api.ErrForm); e != api.ErrForm {
		t.Error(e)
	}
	x, e := r.Int()
	answers(t, x, e, 1)
	stands(t, r, 2, 0)
	broke(t, q, 0, 2, api.ErrForm)
}
