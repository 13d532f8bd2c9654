package delta_test

import (
	"encoding/hex"
	"math"
	"slices"
	"strings"
	"testing"

	"seesaw/api"
	"seesaw/bytes"
	"seesaw/delta"
	"seesaw/event"
	"seesaw/sample"
)

// sized is a trace without events.
func sized(threads, vars, stripes int) api.Trace {
	return api.Trace{Threads: threads, Vars: vars, Stripes: stripes}
}

// sizes are some over which events may be, among them the least and the greatest.
func sizes() []api.Trace {
	return []api.Trace{sized(1, 1, 1), sized(2, 3, 2), sized(3, 6, 3), sized(4, 5, 1), sized(5, 7, 7), sized(6, 32, 32), sized(6, 32, 31), sized(1, 32, 1)}
}

// said is the event of a text.
func said(t testing.TB, text string) api.Event {
	t.Helper()
	e, wrong := event.Parse(text)
	if wrong != api.OK {
		t.Fatalf("%q is no event", text)
	}
	return e
}

// bits are bytes that are written as hexadecimal digits.
func bits(t testing.TB, s string) string {
	t.Helper()
	b, err := hex.DecodeString(strings.ReplaceAll(s, " ", ""))
	if err != nil {
		t.Fatal(s, err)
	}
	return string(b)
}

// hands tells that a call answers just this.
func hands(t testing.TB, name string, is, want api.Errno) {
	t.Helper()
	if is != want {
		t.Fatalf("%s: %v; want %v", name, is, want)
	}
}

// is tells that a call tells just this.
func is[T comparable](t testing.TB, name string, is, want T) {
	t.Helper()
	if is != want {
		t.Fatalf("%s: %v; want %v", name, is, want)
	}
}

// number are a number's bytes, by chapter 1.
func number(n uint64) string {
	if n < 128 {
		return string([]byte{byte(n)})
	}
	return string([]byte{128 + byte(n%128)}) + number(n/128)
}

// numbers are bytes of numbers, one behind the other.
func numbers(l ...uint64) string {
	s := ""
	for _, n := range l {
		s += number(n)
	}
	return s
}

// whole is a whole number as a number, by chapter 1.
func whole(x int64) uint64 {
	if x >= 0 {
		return 2 * uint64(x)
	}
	return 2*uint64(^x) + 1
}

// back is the whole number that a number is.
func back(n uint64) int64 {
	if n%2 == 0 {
		return int64(n / 2)
	}
	return ^int64(n / 2)
}

// knowledge is what a coder knows.
type knowledge struct {
	last, clock   int
	begun, bumped [api.MaxThreads]int
	values        [api.MaxVars]int64
}

// past is a trace whose events were told, one behind the other.
type past api.Trace

// and is it with an event more.
func (p past) and(e api.Event) past {
	p.Events = append(slices.Clip(p.Events), e)
	return p
}

// knows is what a coder knows behind it, by the chapter's words.
func (p past) knows() knowledge {
	var k knowledge
	for _, e := range p.Events {
		k.last = e.Thread
		switch e.Kind {
		case api.Begin:
			k.begun[e.Thread], k.clock = e.V, max(k.clock, e.V)
		case api.Bump:
			k.bumped[e.Thread], k.clock = e.V, max(k.clock, e.V)
		case api.Load, api.Store:
			k.values[e.At] = e.X
		}
	}
	return k
}

// may tells whether an event may be told behind it, by the chapter's words.
func (p past) may(e api.Event) bool {
	k := p.knows()
	switch {
	case !event.May(e, p.Threads, p.Vars, p.Stripes):
		return false
	case e.Kind == api.Begin:
		return k.clock <= e.V
	case e.Kind == api.Look:
		return e.V <= k.begun[e.Thread]
	case e.Kind == api.Bump:
		return k.clock < e.V
	case e.Kind == api.Commit && e.V > 0:
		return k.bumped[e.Thread] == e.V
	}
	return true
}

// first is an event's first number.
func (p past) first(kind uint8, thread int) uint64 {
	behind := thread - p.knows().last
	if behind < 0 {
		behind += p.Threads
	}
	return uint64((int(kind)-1)*p.Threads + behind)
}

// rest are the numbers behind the first one of an event that may be told, by the chapter's table.
func (p past) rest(e api.Event) []uint64 {
	k := p.knows()
	at := uint64(e.At)
	switch e.Kind {
	case api.Begin:
		return []uint64{uint64(e.Tx), uint64(e.V - k.clock)}
	case api.Look:
		return []uint64{at, uint64(k.begun[e.Thread] - e.V)}
	case api.Load, api.Store:
		return []uint64{at, whole(e.X - k.values[e.At])}
	case api.Lock, api.Check, api.Free, api.Undo:
		return []uint64{at}
	case api.Bump:
		return []uint64{uint64(e.V - k.clock)}
	case api.Commit:
		if e.V == 0 {
			return []uint64{0}
		}
		return []uint64{1}
	case api.Abort:
		if e.Why == api.Full {
			return []uint64{5}
		}
		return []uint64{uint64(e.Why) - 1, at}
	}
	return nil
}

// bytes are those of an event that may be told.
func (p past) bytes(e api.Event) string {
	return number(p.first(e.Kind, e.Thread)) + numbers(p.rest(e)...)
}

// ends are the least and the greatest of each number behind the first one of such an event; of an Abort that is not Full.
func (p past) ends(kind uint8, thread int) [][2]uint64 {
	k := p.knows()
	stripe, variable := [2]uint64{0, uint64(p.Stripes - 1)}, [2]uint64{0, uint64(p.Vars - 1)}
	left := uint64(1<<40 - k.clock)
	switch kind {
	case api.Begin:
		return [][2]uint64{{0, 5}, {0, left}}
	case api.Look:
		return [][2]uint64{stripe, {0, uint64(k.begun[thread])}}
	case api.Load, api.Store:
		return [][2]uint64{variable, {0, math.MaxUint64}}
	case api.Lock, api.Check, api.Free, api.Undo:
		return [][2]uint64{stripe}
	case api.Bump:
		return [][2]uint64{{1, left}}
	case api.Commit:
		if k.bumped[thread] == 0 {
			return [][2]uint64{{0, 0}}
		}
		return [][2]uint64{{0, 1}}
	case api.Abort:
		return [][2]uint64{{0, 5}, stripe}
	}
	return nil
}

// event is the one of a Kind and a Thread that has such numbers behind the first one.
func (p past) event(kind uint8, thread int, n []uint64) api.Event {
	k := p.knows()
	e := api.Event{Kind: kind, Thread: thread}
	switch kind {
	case api.Begin:
		e.Tx, e.V = int(n[0]), k.clock+int(n[1])
	case api.Look:
		e.At, e.V = int(n[0]), k.begun[thread]-int(n[1])
	case api.Load, api.Store:
		e.At, e.X = int(n[0]), k.values[n[0]]+back(n[1])
	case api.Lock, api.Check, api.Free, api.Undo:
		e.At = int(n[0])
	case api.Bump:
		e.V = k.clock + int(n[0])
	case api.Commit:
		if n[0] == 1 {
			e.V = k.bumped[thread]
		}
	case api.Abort:
		e.Why = uint8(n[0] + 1)
		if e.Why != api.Full {
			e.At = int(n[1])
		}
	}
	return e
}

// taken is the number that bytes begin by, by chapter 1, and how many it has; or what is wrong there.
func taken(s string) (n uint64, size int, wrong api.Errno) {
	for i := range len(s) {
		b := uint64(s[i])
		if i == 9 && b > 1 {
			return 0, 0, api.ErrRange
		}
		n |= b % 128 << (7 * i)
		if b >= 128 {
			continue
		}
		if b == 0 && i > 0 {
			return 0, 0, api.ErrWide
		}
		return n, i + 1, api.OK
	}
	return 0, 0, api.ErrShort
}

// reads is the event that bytes begin by, by the chapter's words, and how many it has; or where something is wrong, and what.
func (p past) reads(s string) (e api.Event, place int, wrong api.Errno) {
	next := func(ends [2]uint64) (n uint64) {
		if wrong != api.OK {
			return 0
		}
		n, size, what := taken(s[place:])
		if what == api.OK && (n < ends[0] || n > ends[1]) {
			what = api.ErrRange
		}
		if what != api.OK {
			wrong = what
			return 0
		}
		place += size
		return n
	}
	threads := uint64(p.Threads)
	n := next([2]uint64{0, 13*threads - 1})
	kind, thread := uint8(n/threads)+1, (p.knows().last+int(n%threads))%p.Threads
	var l []uint64
	for i, ends := range p.ends(kind, thread) {
		if kind == api.Abort && i == 1 && l[0] == 5 {
			break
		}
		l = append(l, next(ends))
	}
	if wrong != api.OK {
		return api.Event{}, place, wrong
	}
	return p.event(kind, thread, l), place, api.OK
}

// coding is a coder, and what it was told.
type coding struct {
	c *delta.Coder
	p past
}

// made is a coder that was told nothing.
func made(t testing.TB, size api.Trace) *coding {
	t.Helper()
	c, e := delta.New(size.Threads, size.Vars, size.Stripes)
	if c == nil || e != api.OK {
		t.Fatalf("New of %+v: %v, %v", size, c, e)
	}
	size.Events = nil
	return &coding{c, past(size)}
}

// behind is a coder that was told events of texts, with a ; between each two.
func behind(t testing.TB, size api.Trace, s string) *coding {
	t.Helper()
	b := made(t, size)
	for text := range strings.SplitSeq(s, ";") {
		if text = strings.TrimSpace(text); text != "" {
			b.writes(t, said(t, text), b.p.bytes(said(t, text)))
		}
	}
	return b
}

// copied is a copy of it.
func (b *coding) copied() *coding { return &coding{b.c.Copy(), b.p} }

// known is what the coder knows, as what it writes and reads tells; none of that changes it.
func (b *coding) known(t testing.TB) knowledge {
	t.Helper()
	var k knowledge
	w, _ := bytes.NewWriter(1)
	if e := b.c.Copy().Write(w, api.Event{Kind: api.Wait}); e != api.OK {
		t.Fatal("Write of a Wait:", e)
	}
	for ; number(uint64(11*b.p.Threads+(b.p.Threads-k.last)%b.p.Threads)) != w.Text(); k.last++ {
		if k.last == b.p.Threads {
			t.Fatalf("a Wait of 0 is %x", w.Text())
		}
	}
	reads := func(kind uint8, thread int, rest string) api.Event {
		behind := (thread - k.last + b.p.Threads) % b.p.Threads
		r, _ := bytes.NewReader(number(uint64((int(kind)-1)*b.p.Threads+behind)) + rest)
		e, _ := b.c.Copy().Read(r)
		return e
	}
	k.clock = reads(api.Begin, 0, "\x00\x00").V
	for thread := range b.p.Threads {
		k.begun[thread] = reads(api.Look, thread, "\x00\x00").V
		k.bumped[thread] = reads(api.Commit, thread, "\x01").V
	}
	for v := range b.p.Vars {
		k.values[v] = reads(api.Load, 0, string([]byte{byte(v), 0})).X
	}
	return k
}

// keeps tells that the coder knows what it was told.
func (b *coding) keeps(t testing.TB) {
	t.Helper()
	if k := b.known(t); k != b.p.knows() {
		t.Fatalf("behind %+v it knows %+v; want %+v", b.p, k, b.p.knows())
	}
}

// written is a writer with room for so many bytes more than those that it has.
func written(t testing.TB, more int) *bytes.Writer {
	t.Helper()
	w, e := bytes.NewWriter(len(ahead) + more)
	if e != api.OK || w.Raw(ahead) != api.OK {
		t.Fatal("no writer", e)
	}
	return w
}

// ahead are bytes that stand ahead of an event's, which are not its own.
const ahead = "\xff\x00x"

// reading is a reader that is to go over these bytes, with some behind.
func reading(t testing.TB, s string) *bytes.Reader {
	t.Helper()
	r, e := bytes.NewReader(ahead + s)
	if e != api.OK {
		t.Fatal("no reader", e)
	}
	r.Raw(len(ahead))
	return r
}

// writes tells that an event is written just so, where there is room for it, and is read so; then the coder knows of it.
func (b *coding) writes(t testing.TB, e api.Event, want string) {
	t.Helper()
	for room := range len(want) {
		w := written(t, room)
		if wrong := b.c.Write(w, e); wrong != api.ErrTooLarge || w.Text() != ahead {
			t.Fatalf("Write of %+v behind %+v with room for %d bytes: %v, %x", e, b.p, room, wrong, w.Text())
		}
	}
	b.keeps(t)
	b.copied().reads(t, want, e)
	w := written(t, len(want))
	if wrong := b.c.Write(w, e); wrong != api.OK || w.Text() != ahead+want {
		t.Fatalf("Write of %+v behind %+v: %v, %x; want %x", e, b.p, wrong, w.Text()[len(ahead):], want)
	}
	b.p = b.p.and(e)
	b.keeps(t)
}

// reads tells that bytes are read as this event, whatever stands behind them; then the coder knows of it.
func (b *coding) reads(t testing.TB, s string, want api.Event) {
	t.Helper()
	for _, more := range []string{"", "\x00", "\x80"} {
		d, r := b.c.Copy(), reading(t, s+more)
		e, wrong := d.Read(r)
		if e != want || wrong != api.OK || r.At() != len(ahead+s) {
			t.Fatalf("Read of %x behind %+v: %+v, %v, at %d; want %+v", s, b.p, e, wrong, r.At()-len(ahead), want)
		}
		is(t, "what is left", r.Left(), len(more))
	}
	b.c.Read(reading(t, s))
	b.p = b.p.and(want)
	b.keeps(t)
}

// hides tells that an event may not be told: it is not written, wherever there is room, and the coder knows what it knew.
func (b *coding) hides(t testing.TB, e api.Event) {
	t.Helper()
	for _, room := range []int{0, 1, 100} {
		w := written(t, room)
		if wrong := b.c.Write(w, e); wrong != api.ErrForm || w.Text() != ahead {
			t.Fatalf("Write of %+v behind %+v: %v, %x; want %v", e, b.p, wrong, w.Text(), api.ErrForm)
		}
	}
	hands(t, "Write without a writer", b.c.Write(nil, e), api.ErrNil)
	b.keeps(t)
}

// refuses tells that bytes are refused, at that place among them; the coder knows what it knew.
func (b *coding) refuses(t testing.TB, s string, place int, want api.Errno) {
	t.Helper()
	r := reading(t, s)
	for range 2 {
		if e, wrong := b.c.Read(r); e != (api.Event{}) || wrong != want {
			t.Fatalf("Read of %x behind %+v: %+v, %v; want %v", s, b.p, e, wrong, want)
		}
		if at, wrong := r.Wrong(); at-len(ahead) != place || wrong != want {
			t.Fatalf("Wrong behind Read of %x behind %+v: %d, %v; want %d, %v", s, b.p, at-len(ahead), wrong, place, want)
		}
	}
	b.keeps(t)
}

// step tells that a Write of an event is as the chapter's words say, and whether it may be told.
func (b *coding) step(t testing.TB, e api.Event) bool {
	t.Helper()
	if !b.p.may(e) {
		b.hides(t, e)
		return false
	}
	b.writes(t, e, b.p.bytes(e))
	return true
}

// goes tells that a Read of bytes is as the chapter's words say, and how many were gone over, if it is not refused.
func (b *coding) goes(t testing.TB, s string) (size int, ok bool) {
	t.Helper()
	e, place, wrong := b.p.reads(s)
	if wrong != api.OK {
		b.refuses(t, s, place, wrong)
		return 0, false
	}
	b.reads(t, s[:place], e)
	return place, true
}

// near are events of all Kinds and threads that may be told behind it, or nearly.
func (p past) near() []api.Event {
	var l []api.Event
	for thread := range p.Threads {
		for kind := range api.Wake + 2 {
			l = append(l, sample.Events(api.Trace(p), thread, kind, sample.Clocks(p.Events))...)
		}
	}
	return l
}
