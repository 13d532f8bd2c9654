package trace_test

import (
	"strings"
	"testing"

	"seesaw/api"
	"seesaw/frame"
	"seesaw/sample"
	"seesaw/shape"
	"seesaw/trace"
)

// encoded are the bytes of a well-formed trace.
func encoded(t testing.TB, tr api.Trace) string {
	t.Helper()
	s, e := trace.Encode(tr)
	if e != api.OK {
		t.Fatalf("Encode of %+v: %v", some(tr), e)
	}
	return s
}

// P15.2: Decode of Encode is the trace; Encode of Decode the bytes, which are those of the chapter's words; what is decoded is well-formed.
func TestP15_2(t *testing.T) {
	came := map[[2]uint8]bool{}
	for _, tr := range append(traces(2, 150, 120), long(3000)) {
		s := encoded(t, tr)
		is(t, "Encode", s, framed(body(t, tr)))
		back, place, e := trace.Decode(s)
		if !trace.Same(back, tr) || place != 0 || e != api.OK {
			t.Fatalf("Decode of Encode of %+v: %+v, %d, %v", some(tr), some(back), place, e)
		}
		is(t, "Encode of Decode", encoded(t, back), s)
		if n, e := shape.Check(back); n != len(back.Events) || e != api.OK {
			t.Fatalf("Check of what was decoded: %d, %v", n, e)
		}
		for _, e := range tr.Events {
			came[[2]uint8{e.Kind, e.Why}] = true
		}
	}
	is(t, "how many Kinds and Whys came", len(came), 12+6)
}

// ways are all rows of so many numbers below this one.
func ways(many, below int) [][]int {
	if many == 0 {
		return [][]int{nil}
	}
	var l [][]int
	for _, w := range ways(many-1, below) {
		for n := range below {
			l = append(l, append(append([]int{}, w...), n))
		}
	}
	return l
}

// P15.3: all short bodies of edge bytes, behind what may stand ahead of them, in a frame and as they are.
func TestP15_3Short(t *testing.T) {
	edges := []string{"\x00", "\x01", "\x02", "\x06", "\x0b", "\x80", "\xff"}
	came := map[api.Errno]int{}
	for _, ahead := range []string{"", "\x01\x01\x01", "\x01\x01\x01\x01\x00", "\x01\x01\x01\x02\x00\x00\x00", "\x02\x02\x01\x03\x01\x00\x05\x02\x00", "\x01\x02\x02\x04\x00\x00\x00\x03\x00\x04\x01"} {
		for many := range 5 {
			for _, w := range ways(many, len(edges)) {
				var b strings.Builder
				b.WriteString(ahead)
				for _, n := range w {
					b.WriteString(edges[n])
				}
				again(t, b.String())
				came[again(t, framed(b.String()))]++
			}
		}
	}
	for _, e := range []api.Errno{api.OK, api.ErrForm, api.ErrShort, api.ErrLong, api.ErrWide, api.ErrRange} {
		if came[e] < 20 {
			t.Errorf("%v: %d times", e, came[e])
		}
	}
}

// P15.3: bodies with bytes that are other ones, or gone, or more, in a frame whose sum is right, and in one whose sum is not.
func TestP15_3Turned(t *testing.T) {
	came := map[api.Errno]int{}
	next := sample.Noise(3)
	for _, tr := range traces(31, 100, 60) {
		b := body(t, tr)
		for range 60 {
			at := next(len(b))
			c := string([]byte{byte([]int{next(256), next(30), next(3)}[next(3)])})
			for _, turned := range []string{b[:at] + c + b[at+1:], b[:at] + b[at+1:], b[:at] + c + b[at:], b[:at]} {
				came[again(t, framed(turned))]++
			}
			s := framed(b)
			came[again(t, s[:len(s)-4-len(b)]+b[:at]+c+b[at+1:]+s[len(s)-4:])]++
		}
	}
	for _, e := range []api.Errno{api.OK, api.ErrForm, api.ErrShort, api.ErrLong, api.ErrRange, api.ErrSum} {
		if came[e] < 50 {
			t.Errorf("%v: %d times", e, came[e])
		}
	}
}

// P15.3: any bytes, as they are and as a body: of small ones, and of all.
func TestP15_3Any(t *testing.T) {
	next := sample.Noise(32)
	for range 10000 {
		b := make([]byte, next(40))
		for n := range b {
			b[n] = byte(next([]int{3, 10, 80, 256}[next(4)]))
		}
		again(t, string(b))
		again(t, framed(string(b)))
		tr := sizes()[next(len(sizes()))]
		again(t, framed(sizing(tr, next(6))+string(b)))
	}
}

// turned is a text with up to four bytes, from a place on, put together with others.
func turned(s string, at int, by uint32) string {
	b := []byte(s)
	for n := range min(4, len(b)-at) {
		b[at+n] ^= byte(by >> (8 * n))
	}
	return string(b)
}

// P15.4: whichever bytes within four are other ones, behind the length: ErrSum, at the sum.
func TestP15_4(t *testing.T) {
	turns := []uint32{1, 0x80, 0xff, 0x0101, 0x8000, 0x80ff00, 0x01000001, 0xffffffff, 0x80000000, 0x00010000}
	next := sample.Noise(4)
	for range 10 {
		turns = append(turns, uint32(next(1<<31))<<1|1)
	}
	for _, tr := range append(traces(41, 30, 60), each(t)) {
		s := encoded(t, tr)
		for at := len(s) - 4 - len(body(t, tr)); at < len(s); at++ {
			for _, by := range turns {
				if u := turned(s, at, by); u != s {
					refused(t, u, len(s)-4, api.ErrSum)
				}
			}
		}
	}
}

// P15.4: each byte behind the length as any other one.
func TestP15_4Bytes(t *testing.T) {
	s := encoded(t, each(t))
	for at := 1; at < len(s); at++ {
		for by := uint32(1); by < 256; by++ {
			refused(t, s[:at]+string([]byte{s[at] ^ byte(by)})+s[at+1:], len(s)-4, api.ErrSum)
		}
	}
	s = encoded(t, long(100000))
	for at := 3; at < len(s); at += len(s) / 9 {
		refused(t, s[:at]+string([]byte{s[at] ^ 64})+s[at+1:], len(s)-4, api.ErrSum)
	}
}

// P15.4: what a trace's bytes begin by is refused, at its end; and so is what they are with more behind, at theirs.
func TestP15_4Cut(t *testing.T) {
	for _, tr := range traces(42, 60, 60) {
		s := encoded(t, tr)
		head := len(s) - 4 - len(body(t, tr))
		for n := range len(s) {
			at := n
			if n < head {
				at = 0 // the length itself is not whole
			}
			refused(t, s[:n], at, api.ErrShort)
		}
		for _, more := range []string{"\x00", "\x80", "\xff\xff\xff\xff", s} {
			refused(t, s+more, len(s), api.ErrLong)
		}
	}
}

// inside is the body of a well-formed trace's bytes.
func inside(t testing.TB, tr api.Trace) string {
	t.Helper()
	body, _, e := frame.Unwrap(encoded(t, tr))
	is(t, "Unwrap's error", e, api.OK)
	return body
}

// P15.5: the body of a trace with fewer events begins, behind how many there are, as that of the trace; it is no longer.
func TestP15_5(t *testing.T) {
	for _, tr := range append(traces(5, 60, 150), each(t), long(400)) {
		all := inside(t, tr)
		rest, ok := strings.CutPrefix(all, sizing(tr, len(tr.Events)))
		is(t, "whether the sizes stand there", ok, true)
		for n := range tr.Events {
			fewer := tr
			fewer.Events = tr.Events[:n]
			b := inside(t, fewer)
			part, ok := strings.CutPrefix(b, sizing(tr, n))
			if !ok || !strings.HasPrefix(rest, part) || len(b) > len(all) {
				t.Fatalf("of %d events of %+v: %s; of all %s", n, some(tr), shown(b), shown(all))
			}
		}
	}
}

// P15.6: unlike traces have unlike bytes, and the same one has the same.
func TestP15_6(t *testing.T) {
	next := sample.Noise(6)
	texts := map[string]api.Trace{}
	for _, tr := range traces(61, 60, 40) {
		for _, other := range append(sample.Bent(next, tr), tr, sized(tr.Threads, tr.Vars, tr.Stripes)) {
			s, e := trace.Encode(other)
			if e != api.OK {
				continue
			}
			if one, ok := texts[s]; ok && !trace.Same(one, other) {
				t.Fatalf("Encode of %+v and of %+v: %s", one, other, shown(s))
			}
			texts[s] = other
		}
	}
	if len(texts) < 500 {
		t.Fatal("so few:", len(texts))
	}
}

// P15.6: all traces over the least sizes of few events have bytes of their own, which are theirs alone.
func TestP15_6Every(t *testing.T) {
	texts := map[string]bool{}
	var more func(tr api.Trace, left int)
	more = func(tr api.Trace, left int) {
		s, e := trace.Encode(tr)
		if e != api.OK {
			return
		}
		is(t, "whether these bytes are another trace's", texts[s], false)
		texts[s] = true
		decodes(t, s, tr)
		if left == 0 {
			return
		}
		for thread := range tr.Threads {
			for kind := range api.Wake + 1 {
				for _, e := range sample.Events(tr, thread, kind, []int{0, 1, 2}) {
					longer := tr
					longer.Events = append(append([]api.Event{}, tr.Events...), e)
					more(longer, left-1)
				}
			}
		}
	}
	more(sized(1, 1, 1), 5)
	more(sized(2, 2, 2), 2)
	more(sized(0, 2, 2), 1)
	if len(texts) < 500 {
		t.Fatal("so few:", len(texts))
	}
}

// P15.6: each event has 1 to 12 bytes.
func TestP15_6Small(t *testing.T) {
	least, most := 99, 0
	for _, tr := range append(traces(62, 60, 100), each(t), long(400)) {
		last := 0
		for n := range len(tr.Events) + 1 {
			fewer := tr
			fewer.Events = tr.Events[:n]
			size := len(inside(t, fewer)) - len(sizing(tr, n))
			if n > 0 {
				least, most = min(least, size-last), max(most, size-last)
			}
			last = size
		}
	}
	is(t, "the bytes of the shortest event", least, 1)
	is(t, "the bytes of the longest event", most, 12)
}

// P15.1 to P15.4, R1: whatever bytes, and traces, fuzzing comes to, the chapter's words say what is answered.
func FuzzTrace(f *testing.F) {
	f.Add("")
	f.Add("\x00\x01\x01\x00")
	f.Add("\x01\x01\x01\x02\x00\x00\x00\x06\x00")
	f.Add("\x02\x03\x02\x06\x01\x00\x05\x02\x01\x02\x04\x01\x07\x03\x00\x00\x06\x01\x09\x01")
	f.Fuzz(func(t *testing.T, s string) {
		again(t, s)
		again(t, framed(s))
		next := sample.Bytes(s)
		tr := sample.Formed(next, sized(next(7), 3, 1+next(3)), min(len(s), 30))
		encodes(t, tr, body(t, tr))
		for _, other := range sample.Bent(next, tr)[:min(len(tr.Events), 9)] {
			if _, e := shape.Check(other); e != api.OK {
				bare(t, other, e)
			} else {
				encodes(t, other, body(t, other))
			}
		}
		again(t, framed(sizing(tr, next(9))+s))
	})
}
