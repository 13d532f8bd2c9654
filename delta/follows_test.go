package delta_test

import (
	"strings"
	"testing"

	"seesaw/api"
	"seesaw/bytes"
	"seesaw/sample"
)

// told is a trace over these sizes whose events may be told, any of them.
func told(next sample.Next, size api.Trace, most int) past {
	p := past(size)
	for e := range sample.Walk(next, size, func(e api.Event) bool { return p.may(e) }) {
		if p = p.and(e); len(p.Events) == most {
			break
		}
	}
	return p
}

// pasts are some of both.
func pasts(seed uint64, many int) []past {
	next := sample.Noise(seed)
	var l []past
	for n := range many {
		size := sizes()[next(len(sizes()))]
		if n%2 == 0 {
			l = append(l, told(next, size, 1+next(60)))
		} else {
			l = append(l, past(sample.Formed(next, size, 1+next(60))))
		}
	}
	return l
}

// P14.1: behind events of any trace: each event that is near is written just if the chapter's words say so, and as they say.
func TestP14_1Any(t *testing.T) {
	next := sample.Noise(14)
	came, can, all := map[[2]uint8]int{}, 0, 0
	for _, p := range pasts(141, 60) {
		b := made(t, api.Trace(p))
		for _, e := range p.Events {
			came[[2]uint8{e.Kind, e.Why}]++
			is(t, "whether it may be told", b.step(t, e), true)
		}
		l := p.near()
		for range 100 {
			all++
			if b.copied().step(t, l[next(len(l))]) {
				can++
			}
		}
	}
	if len(came) != 12+6 || can < all/10 || can > all-all/10 {
		t.Fatal("not each Kind and each Why came, or not enough of both:", came, can, all)
	}
}

// some are any bytes, most of them such as an event may begin by.
func some(next sample.Next) string {
	var l []byte
	for range next(9) {
		l = append(l, byte([]int{next(256), next(80), next(6), next(2), 128 + next(128)}[next(5)]))
		if next(20) == 0 {
			l = append(l, []byte(strings.Repeat("\xff", next(10)))...)
		}
	}
	return string(l)
}

// P14.1: whatever bytes come, behind events of any trace, are read as the chapter's words say.
func TestP14_1AnyBytes(t *testing.T) {
	next := sample.Noise(15)
	came := map[api.Errno]int{}
	for _, p := range pasts(151, 60) {
		b := made(t, api.Trace(p))
		for _, e := range p.Events {
			b.reads(t, b.p.bytes(e), e)
		}
		for range 200 {
			s := some(next)
			_, _, wrong := b.p.reads(s)
			came[wrong]++
			b.goes(t, s)
		}
	}
	if len(came) != 4 || came[api.OK] < 500 || came[api.ErrShort] < 100 || came[api.ErrWide] < 100 || came[api.ErrRange] < 100 {
		t.Fatal("so few came:", came)
	}
}

// P14.2: events that are written, one behind the other, are read so by a coder of the same sizes; which then knows the same.
func TestP14_2(t *testing.T) {
	for _, p := range pasts(2, 200) {
		w, _ := bytes.NewWriter(16 * len(p.Events))
		writer, reader := made(t, api.Trace(p)), made(t, api.Trace(p))
		for _, e := range p.Events {
			hands(t, "Write", writer.c.Write(w, e), api.OK)
		}
		r, _ := bytes.NewReader(w.Text())
		for n, e := range p.Events {
			if d, wrong := reader.c.Read(r); d != e || wrong != api.OK {
				t.Fatalf("Read of the event %d of %+v: %+v, %v", n, p, d, wrong)
			}
		}
		hands(t, "End", r.End(), api.OK)
		is(t, "what it knows", reader.known(t), writer.known(t))
		reader.p = p
		reader.keeps(t)
	}
}

// P14.3, P14.4: what is read of any bytes may be told, and may be; written anew by a coder that knew the same it is the bytes that were gone over.
func TestP14_3(t *testing.T) {
	next := sample.Noise(3)
	read := 0
	for _, p := range pasts(31, 300) {
		b := made(t, api.Trace(p))
		for _, e := range p.Events {
			b.c.Write(written(t, 16), e)
			b.p = b.p.and(e)
		}
		for range 30 {
			s := some(next)
			r, _ := bytes.NewReader(s)
			knew := b.c.Copy()
			e, wrong := b.c.Read(r)
			if wrong != api.OK {
				continue
			}
			read++
			is(t, "whether what is read may be told", b.p.may(e), true)
			b.p = b.p.and(e)
			w, _ := bytes.NewWriter(r.At())
			hands(t, "Write of what was read", knew.Write(w, e), api.OK)
			is(t, "what is written anew", w.Text(), s[:r.At()])
			is(t, "what is known then", (&coding{knew, b.p}).known(t), b.known(t))
		}
	}
	if read < 1000 {
		t.Fatal("so few were read:", read)
	}
}

// P14.4: of each two bytes, and of each three of small numbers, what is read behind some events may be told, and may be.
func TestP14_4(t *testing.T) {
	for _, b := range []*coding{made(t, sized(1, 1, 1)), rich(t)} {
		for first := range 256 {
			for second := range 256 {
				for _, third := range []byte{0, 1, 8, 9, 100, 255} {
					s := string([]byte{byte(first), byte(second), third})
					r, _ := bytes.NewReader(s)
					if e, wrong := b.c.Copy().Read(r); wrong == api.OK {
						is(t, "whether what is read may be told", b.p.may(e), true)
						is(t, "its bytes", b.p.bytes(e), s[:r.At()])
					}
				}
			}
		}
	}
}

// P14.5: an event has at most 16 bytes, wherever it stands.
func TestP14_5(t *testing.T) {
	longest := 0
	size := func(b *coding, e api.Event) {
		w, _ := bytes.NewWriter(100)
		if wrong := b.c.Copy().Write(w, e); wrong == api.OK {
			longest = max(longest, w.Len())
		}
	}
	for _, p := range pasts(5, 100) {
		b := made(t, api.Trace(p))
		for _, e := range p.Events {
			size(b, e)
			b.c.Write(written(t, 16), e)
		}
		for _, e := range p.near() {
			size(b, e)
		}
	}
	for _, at := range []int{0, 31} {
		for _, x := range []int64{0, 1, -1, 1 << 62, -1 << 62, 1<<63 - 1, -1 << 63} {
			for _, last := range []int64{0, 1, -1, 1<<63 - 1, -1 << 63} {
				b := made(t, sized(6, 32, 32))
				b.c.Write(written(t, 16), api.Event{Kind: api.Load, At: at, X: last})
				size(b, api.Event{Kind: api.Store, Thread: 5, At: at, X: x})
			}
		}
	}
	if longest != 12 {
		t.Fatal("the longest event has so many bytes:", longest)
	}
}

// P14.5: an event whose parts are as the last ones' has at most 3 bytes, of whatever Kind and thread, with numbers as great as there may be.
func TestP14_5Small(t *testing.T) {
	for thread := range 6 {
		for _, x := range []int64{-1 << 63, 1<<63 - 1, 12345} {
			b := made(t, sized(6, 32, 32))
			for _, e := range []api.Event{
				{Kind: api.Begin, Thread: thread, V: 1<<40 - 1}, {Kind: api.Load, Thread: 1, At: 31, X: x}, {Kind: api.Bump, Thread: thread, V: 1 << 40}, {Kind: api.Begin, Thread: thread, V: 1 << 40},
			} {
				b.step(t, e)
			}
			for _, e := range []api.Event{
				{Kind: api.Begin, V: 1 << 40, Tx: 5}, {Kind: api.Look, At: 31, V: 1 << 40}, {Kind: api.Load, At: 31, X: x}, {Kind: api.Store, At: 31, X: x}, {Kind: api.Lock, At: 31}, {Kind: api.Check, At: 31},
				{Kind: api.Commit, V: 1 << 40}, {Kind: api.Free, At: 31}, {Kind: api.Abort, Why: 5, At: 31}, {Kind: api.Abort, Why: 6}, {Kind: api.Undo, At: 31}, {Kind: api.Wait}, {Kind: api.Wake},
			} {
				e.Thread = thread
				is(t, "whether it may be told", b.step(t, e), true)
				if n := len(b.p.bytes(e)); n > 3 {
					t.Fatalf("%+v has %d bytes", e, n)
				}
			}
		}
	}
	b := behind(t, sized(6, 32, 32), "5 begin 0 1099511627775")
	is(t, "how many bytes a Bump just above the clock has", len(b.p.bytes(said(t, "4 bump 1099511627776"))), 2)
	is(t, "whether it may be told", b.step(t, said(t, "4 bump 1099511627776")), true)
}

// P14.1 to P14.4, R1: whatever sizes, events and bytes fuzzing comes to: what is written and read is as the chapter's words say.
func FuzzDelta(f *testing.F) {
	f.Add("\x03\x04\x02\x00\x01\x02\x03\x04\x05\x06\x07\x08\x09\x0a\x0b\x0c\x0d\x0e\x0f")
	f.Add("\x06\x20\x20\x01\x00\x00\x05\x01\x02\x01\x02\x01\x04\x01\x07\x01\xff\xff\xff\xff\xff\xff\xff\xff\xff\x01")
	f.Fuzz(func(t *testing.T, s string) {
		s = s[:min(len(s), 200)]
		next := sample.Bytes(s)
		vars := 1 + next(32)
		b := made(t, sized(1+next(6), vars, 1+next(vars)))
		for n := 3; n < len(s); n += 4 {
			if next(2) > 0 {
				l := b.p.near()
				b.step(t, l[(next(256)<<8+next(256))%len(l)])
				continue
			}
			size, ok := b.goes(t, s[n:])
			if ok {
				n += size
			}
		}
	})
}
