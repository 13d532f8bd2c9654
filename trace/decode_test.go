package trace_test

import (
	"math"
	"runtime"
	"strings"
	"testing"

	"seesaw/api"
	"seesaw/frame"
	"seesaw/sample"
	"seesaw/shape"
	"seesaw/varint"
)

// each is a trace with each Kind in it.
func each(t testing.TB) api.Trace {
	t.Helper()
	tr := sized(2, 3, 2)
	for _, x := range kinds() {
		tr.Events = append(tr.Events, said(t, x[0])...)
	}
	return tr
}

// few are some traces of not too many bytes.
func few(t testing.TB) []api.Trace {
	t.Helper()
	return append(traces(154, 20, 30), sized(0, 1, 1), sized(6, 32, 32), each(t))
}

// P15.1: what Unwrap refuses, at its place.
func TestP15_1Unwrap(t *testing.T) {
	s := framed(body(t, each(t)))
	long := strings.Repeat("\x01", api.MaxBytes+1)
	for _, x := range []struct {
		s  string
		at int
		e  api.Errno
	}{
		{"", 0, api.ErrShort}, {"\x80", 0, api.ErrShort}, {"\x80\x00", 0, api.ErrWide}, {strings.Repeat("\x80", 11), 0, api.ErrRange},
		{"\x81\x80\x80\x08", 0, api.ErrRange}, {varint.Put(math.MaxUint64), 0, api.ErrRange}, {"\x80\x80\x80\x08", 4, api.ErrShort},
		{long, 0, api.ErrTooLarge}, {long[1:], 6, api.ErrLong}, {s + long[len(s):], 0, api.ErrTooLarge},
		{"\x01", 1, api.ErrShort}, {"\x01\x01\x00\x00\x00", 5, api.ErrShort}, {"\x01\x01\x00\x00\x00\x00", 2, api.ErrSum}, {"\x01\x01\x00\x00\x00\x00\x00", 6, api.ErrLong},
		{"\x00\x00\x00\x00\x00", 1, api.ErrSum}, {"\x00\x01\x01\x00", 4, api.ErrShort},
		{s[:len(s)-1], len(s) - 1, api.ErrShort}, {s + "\x00", len(s), api.ErrLong}, {s[:len(s)-1] + string([]byte{^s[len(s)-1]}), len(s) - 4, api.ErrSum},
	} {
		if _, at, e := frame.Unwrap(x.s); at != x.at || e != x.e {
			t.Fatalf("Unwrap of %s: %d, %v", shown(x.s), at, e)
		}
		refused(t, x.s, x.at, x.e)
	}
}

// P15.1: no body, and a body that ends at each of its bytes: the number that is not whole is refused, where it begins.
func TestP15_1Short(t *testing.T) {
	wrong(t, "", 0, api.ErrShort)
	for _, tr := range few(t) {
		l := split(body(t, tr))
		at := 0
		for n, text := range l {
			for k := range len(text) {
				wrong(t, l[:n].body()+text[:k], at, api.ErrShort)
			}
			for _, cut := range []string{"\x80", "\xff\xff", "\x80\x80\x80\x80\x80\x80\x80\x80\x80"} {
				wrong(t, l[:n].body()+cut, at, api.ErrShort)
			}
			at += len(text)
		}
	}
	// Fewer events than are told.
	wrong(t, "\x01\x01\x01\x01", 4, api.ErrShort)
	wrong(t, "\x01\x01\x01\x03\x00\x00\x00\x06\x00", 9, api.ErrShort)
	wrong(t, "\x01\x01\x01\x80\x80\x40\x00\x00\x00\x06\x00", 11, api.ErrShort)
	wrong(t, "\x06\x20\x20\x80\x80\x40", 6, api.ErrShort)
}

// P15.1: each number of a body whose last byte is 0 and not its first one, and each one that is greater than any number may be.
func TestP15_1Wide(t *testing.T) {
	nine := strings.Repeat("\x80", 9)
	for _, tr := range few(t) {
		l := split(body(t, tr))
		for n, text := range l {
			last := len(text) - 1
			wide := text[:last] + string([]byte{text[last] | 128}) + "\x00"
			if last < 9 {
				wrong(t, l.with(n, wide), l.at(n), api.ErrWide)
				wrong(t, l[:n].body()+wide, l.at(n), api.ErrWide)
			}
			wrong(t, l.with(n, nine+"\x00"), l.at(n), api.ErrWide)
			wrong(t, l.with(n, nine+"\x02"), l.at(n), api.ErrRange)
			wrong(t, l.with(n, nine+"\x80\x00"), l.at(n), api.ErrRange)
			wrong(t, l[:n].body()+strings.Repeat("\xff", 10), l.at(n), api.ErrRange)
		}
	}
}

// P15.1: each of the four numbers that may not be, just beyond and far beyond, is refused where it begins, whatever stands behind it; those that may be are not.
func TestP15_1Range(t *testing.T) {
	far := []uint64{127, 128, 255, 256, 1<<32 - 1, 1 << 32, 1<<32 + 1, 1 << 63, math.MaxUint64}
	for _, x := range []struct {
		ahead       string
		least, most uint64
	}{
		{"", 0, 6}, {"\x00", 1, 32}, {"\x06", 1, 32},
		{"\x06\x01", 1, 1}, {"\x01\x02", 1, 2}, {"\x00\x20", 1, 32}, {"\x02\x1f", 1, 31},
		{"\x01\x01\x01", 0, 1 << 20}, {"\x06\x20\x01", 0, 1 << 20}, {"\x06\x20\x20", 0, 1 << 20},
		{"\x00\x01\x01", 0, 0}, {"\x00\x20\x20", 0, 0},
	} {
		behind := []string{"", "\x01\x01\x00", "\x01\x00", "\x00", "\x00\x00\x00\x00\x00", "\x80"}
		for _, n := range append(far, 1<<20+1, 1<<20+2, 1<<21, x.most+1, x.most+2, x.least-1) {
			if n >= x.least && n <= x.most {
				continue
			}
			for _, more := range behind {
				wrong(t, x.ahead+varint.Put(n)+more, len(x.ahead), api.ErrRange)
			}
		}
		for _, n := range []uint64{x.least, x.least + 1, x.most - 1, x.most} {
			if n < x.least || n > x.most {
				continue
			}
			text := varint.Put(n)
			wrong(t, x.ahead+text+"\x80", len(x.ahead+text), map[bool]api.Errno{true: api.ErrLong, false: api.ErrShort}[len(x.ahead) == 3 && n == 0])
			for _, more := range behind {
				again(t, framed(x.ahead+text+more))
			}
		}
	}
}

// P15.1: what the coder refuses of an event's numbers, by hand, at that number.
func TestP15_1Coder(t *testing.T) {
	for _, x := range []struct {
		text string
		at   int
	}{
		{"01 01 01 01 0d", 4}, {"02 01 01 01 1a", 4}, {"06 20 20 01 4e", 4}, {"01 01 01 01 ff ff 03", 4},
		{"01 01 01 01 00 06 00", 5}, {"01 01 01 01 00 00 81 80 80 80 80 20", 6},
		{"01 03 02 02 00 00 05 01 02 00", 8}, {"01 03 02 02 00 00 05 01 00 06", 9}, {"01 03 02 03 00 00 05 01 01 05 02 03 00", 11},
		{"01 03 02 02 00 00 05 03 02", 8}, {"01 03 02 03 00 00 05 03 01 04 00", 10}, {"01 03 02 03 00 00 05 03 01 04 fc ff ff ff ff 1f", 10},
		{"01 03 02 02 00 00 05 06 01", 8}, {"01 03 02 02 00 00 05 06 02", 8}, {"01 03 02 02 00 00 05 09 06 00", 8}, {"01 03 02 02 00 00 05 09 00 02", 9},
		{"01 03 02 05 00 00 05 03 00 04 01 06 01 07 03 00", 14}, {"01 03 02 06 00 00 05 03 00 04 01 06 01 07 00 00 08 02", 17},
	} {
		wrong(t, bits(t, x.text), x.at, api.ErrRange)
	}
}

// P15.1: an event that may not come, by hand, at the place at which it begins: ahead of what is behind it, and behind what is wrong in one of its numbers.
func TestP15_1May(t *testing.T) {
	for _, x := range []struct {
		text string
		at   int
		e    api.Errno
	}{
		{"01 01 01 01 01 00 00", 4, api.ErrForm}, {"01 01 01 01 0b", 4, api.ErrForm}, {"01 01 01 01 00 01 00", 4, api.ErrForm}, {"01 01 01 01 09 05", 4, api.ErrForm},
		{"01 01 01 01 01 01 00", 5, api.ErrRange}, {"01 01 01 01 01 00 01", 6, api.ErrRange}, {"01 01 01 01 01 00", 6, api.ErrShort}, {"01 01 01 01 01 00 80 00", 6, api.ErrWide},
		{"01 01 01 02 00 00 00 00 00 00", 7, api.ErrForm}, {"01 01 01 03 00 00 00 06 00 06 00", 9, api.ErrForm}, {"01 01 01 03 00 00 00 06 00 0b", 9, api.ErrForm},
		{"01 01 01 02 0b ff", 4, api.ErrForm}, {"01 01 01 02 0b", 4, api.ErrForm}, {"01 01 01 02 0b 0d", 4, api.ErrForm}, {"01 01 01 01 0b 00", 4, api.ErrForm}, {"01 01 01 02 0b 0b", 4, api.ErrForm},
		{"01 02 02 03 00 00 00 01 00 00 02 01 02", 10, api.ErrForm}, {"02 01 01 04 00 00 00 01 00 00 07 00 07 00", 12, api.ErrForm},
		{"02 01 01 80 02 00 00 00 01 00 00 07 00 07 00", 13, api.ErrForm}, {"02 01 01 80 02 00 00 00 01 00 00 07 00 19", 13, api.ErrForm}, {"02 01 01 80 02 00 00 00 01 00 00 07 00 1a", 13, api.ErrRange},
		{"02 01 01 05 00 00 00 06 00 08 01 0c 01 0c 01", 13, api.ErrForm}, {"01 01 01 80 80 40 0b", 6, api.ErrForm},
	} {
		wrong(t, bits(t, x.text), x.at, x.e)
	}
}

// P15.1: of traces that are nearly well-formed the first event that may not come is refused where it begins, whatever is behind.
func TestP15_1Bent(t *testing.T) {
	next, refused, kinds := sample.Noise(155), 0, map[uint8]bool{}
	for _, tr := range append(traces(156, 60, 60), each(t)) {
		for _, other := range sample.Bent(next, tr) {
			n, e := shape.Check(other)
			l := told(t, other)
			switch {
			case e == api.OK:
				encodes(t, other, body(t, other))
			case n < len(l):
				head := sizing(other, len(other.Events))
				ahead := head + strings.Join(l[:n], "")
				for _, behind := range []string{strings.Join(l[n+1:], ""), "", "\xff\xff", strings.Repeat("\x00", next(99))} {
					wrong(t, ahead+l[n]+behind, len(ahead), api.ErrForm)
				}
				refused++
				kinds[other.Events[n].Kind] = true
			}
		}
	}
	if refused < 500 || len(kinds) < 13 {
		t.Fatal("so few were refused:", refused, kinds)
	}
}

// P15.1: bytes behind the last event are refused where they begin, whatever they are.
func TestP15_1Long(t *testing.T) {
	for _, tr := range few(t) {
		b := body(t, tr)
		for _, more := range []string{"\x00", "\x80", "\x01", "\x0b", "\xff\xff", b, strings.Repeat("\x00", 200)} {
			wrong(t, b+more, len(b), api.ErrLong)
		}
		// Events that may come, but of which there are not to be so many.
		head, l := sizing(tr, 0), told(t, tr)
		for n := range l {
			ahead := sizing(tr, n) + strings.Join(l[:n], "")
			wrong(t, ahead+strings.Join(l[n:], ""), len(ahead), api.ErrLong)
		}
		wrong(t, head+"\x00", len(head), api.ErrLong)
	}
}

// P15.1: of two things that are wrong the first one is told.
func TestP15_1First(t *testing.T) {
	bad := map[api.Errno]string{api.ErrRange: strings.Repeat("\xff", 10), api.ErrWide: "\x80\x00"}
	for _, tr := range []api.Trace{sized(0, 1, 1), each(t)} {
		l := split(body(t, tr))
		for n := range l {
			for e, text := range bad {
				for later := n + 1; later < len(l); later++ {
					for _, other := range bad {
						two := append(append(row{}, l[:n]...), text)
						two = append(append(two, l[n+1:later]...), other)
						wrong(t, two.body(), l.at(n), e)
						wrong(t, two.body()+l[later+1:].body(), l.at(n), e)
						wrong(t, two.body()+l[later+1:].body()+"\x00", l.at(n), e)
					}
				}
				wrong(t, l.with(n, text)+"\x00", l.at(n), e)
				wrong(t, l[:n].body()+text, l.at(n), e)
			}
		}
	}
	// More threads, variables, stripes and events than there may be, each ahead of those behind.
	for n, text := range []string{"07 21 22 81 80 40", "06 21 22 81 80 40", "06 20 21 81 80 40", "06 20 20 81 80 40"} {
		wrong(t, bits(t, text), n, api.ErrRange)
		wrong(t, bits(t, text+" 00"), n, api.ErrRange)
	}
	wrong(t, bits(t, "00 00 00 01"), 1, api.ErrRange)
	wrong(t, bits(t, "00 01 00 01"), 2, api.ErrRange)
	wrong(t, bits(t, "00 01 01 01 00 00 00"), 3, api.ErrRange)
	wrong(t, bits(t, "00 01 01 00 00 00 00"), 4, api.ErrLong)
}

// P15.1: places are those in all of the text, of however many bytes its length, and how many events there are, have.
func TestP15_1Places(t *testing.T) {
	for _, x := range []struct{ many, head int }{{2, 1}, {20, 2}, {3000, 3}, {400000, 4}} {
		tr := long(x.many)
		b := body(t, tr)
		refused(t, framed(b+"\x00"), x.head+len(b), api.ErrLong)
		l := told(t, tr)
		last := split(l[len(l)-1])
		refused(t, framed(b[:len(b)-1]), x.head+len(b)-len(last[len(last)-1]), api.ErrShort)
		refused(t, framed("\x07"+b[1:]), x.head, api.ErrRange)
		refused(t, framed(b[:2]+"\x00"+b[3:]), x.head+2, api.ErrRange)
		refused(t, framed(b[:len(b)-len(l[len(l)-1])]+"\x48"), x.head+len(b)-len(l[len(l)-1]), api.ErrForm)
	}
}

// P15.1: how many events are told to come takes no memory: just those that come do.
func TestP15_1Little(t *testing.T) {
	var before, behind runtime.MemStats
	runtime.ReadMemStats(&before)
	for range 100 {
		wrong(t, "\x01\x01\x01\x80\x80\x40", 6, api.ErrShort)
	}
	runtime.ReadMemStats(&behind)
	if grown := behind.TotalAlloc - before.TotalAlloc; grown > 1<<20 {
		t.Errorf("it took %d bytes", grown)
	}
}
