package trace_test

import (
	"math"
	"slices"
	"strings"
	"testing"

	"seesaw/api"
	"seesaw/sample"
	"seesaw/shape"
	"seesaw/trace"
)

// P15.1: the chapter's examples, in their frames.
func TestP15_1Examples(t *testing.T) {
	for _, x := range []struct {
		tr   api.Trace
		text string
	}{
		{sized(0, 1, 1), "04 00 01 01 00 ab 0a 7b 2b"},
		{of(t, sized(1, 1, 1), "0 begin 0 0; 0 commit 0"), "09 01 01 01 02 00 00 00 06 00 58 5a ab 79"},
	} {
		s, e := trace.Encode(x.tr)
		is(t, "Encode", s, bits(t, x.text))
		is(t, "Encode's error", e, api.OK)
		decodes(t, s, x.tr)
		encodes(t, x.tr, s[1:len(s)-4])
	}
}

// kinds are events of each Kind, and their bytes as digits, over two threads, three variables and two stripes.
func kinds() [][2]string {
	return [][2]string{
		{"0 begin 0 0", "00 00 00"}, {"1 begin 0 0", "01 00 00"}, {"1 look 1 0", "02 01 00"}, {"1 load 1 -4", "04 01 07"},
		{"0 look 0 0", "03 00 00"}, {"0 load 2 7", "04 02 0e"}, {"0 lock 0", "06 00"}, {"1 abort 1 0", "13 00 00"}, {"0 bump 1", "09 01"},
		{"1 begin 0 1", "01 00 00"}, {"1 look 1 0", "02 01 01"}, {"1 load 1 5", "04 01 12"}, {"0 commit 1", "0d 01"}, {"0 store 2 -1", "0e 02 0f"}, {"0 free 0", "10 00"},
		{"0 begin 1 300", "00 01 ab 02"}, {"0 look 1 0", "02 01 ac 02"}, {"0 load 1 5", "04 01 00"},
		{"1 lock 1", "07 01"}, {"1 bump 302", "08 02"}, {"1 check 1", "0a 01"}, {"1 commit 302", "0c 01"}, {"1 store 1 9", "0e 01 08"}, {"1 free 1", "10 01"},
		{"0 wait", "17"}, {"0 wake", "18"}, {"1 begin 1 302", "01 01 00"}, {"1 lock 0", "06 00"}, {"1 abort 6 0", "12 05"}, {"1 undo 0", "14 00"},
		{"0 begin 1 302", "01 01 00"}, {"0 commit 0", "0c 00"},
	}
}

// P15.1: a trace with each Kind in it, up to each of its events.
func TestP15_1Kinds(t *testing.T) {
	came := map[uint8]bool{}
	tr, rest := sized(2, 3, 2), ""
	for n, x := range kinds() {
		encodes(t, tr, "\x02\x03\x02"+string([]byte{byte(n)})+rest)
		l := said(t, x[0])
		tr.Events = append(tr.Events, l...)
		rest += bits(t, x[1])
		came[l[0].Kind] = true
	}
	encodes(t, tr, "\x02\x03\x02\x20"+rest)
	is(t, "how many Kinds came", len(came), 13)
}

// P15.1: each of the sizes that may be: no threads up to MaxThreads, one variable up to MaxVars, one stripe up to as many as variables.
func TestP15_1Sizes(t *testing.T) {
	for threads := range 7 {
		for vars := 1; vars <= 32; vars++ {
			for stripes := 1; stripes <= vars; stripes++ {
				tr := sized(threads, vars, stripes)
				head := string([]byte{byte(threads), byte(vars), byte(stripes)})
				encodes(t, tr, head+"\x00")
				if threads == 0 {
					continue
				}
				last := api.Event{Thread: threads - 1, At: stripes - 1}
				begin, look, load := last, last, last
				begin.Kind, begin.At, look.Kind, load.Kind = api.Begin, 0, api.Look, api.Load
				load.At = vars - 1
				look.At = (vars - 1) % stripes
				tr.Events = []api.Event{begin, look, load}
				encodes(t, tr, head+"\x03"+string([]byte{byte(threads - 1), 0, 0, byte(threads), byte((vars - 1) % stripes), 0, byte(2 * threads), byte(vars - 1), 0}))
			}
		}
	}
}

// P15.1: numbers as great as there may be.
func TestP15_1Far(t *testing.T) {
	encodes(t, of(t, sized(1, 32, 32), "0 begin 0 1099511627776; 0 look 31 0; 0 load 31 -9223372036854775808; 0 look 31 1099511627776; 0 load 31 9223372036854775807; 0 look 0 0; 0 load 0 9223372036854775807; 0 commit 0"),
		bits(t, "01 20 20 08 00 00 80 80 80 80 80 20 01 1f 80 80 80 80 80 20 02 1f ff ff ff ff ff ff ff ff ff 01 01 1f 00 02 1f 01 01 00 80 80 80 80 80 20 02 00 fe ff ff ff ff ff ff ff ff 01 06 00"))
}

// wild are numbers at which something might go wrong.
func wild() []int {
	return []int{math.MinInt, -1 << 32, -256, -1, 0, 1, 2, 3, 5, 6, 7, 31, 32, 33, 256, 257, 1 << 32, 1<<32 + 1, math.MaxInt}
}

// P15.1: sizes that may not be: ErrArg, whatever the events are.
func TestP15_1Arg(t *testing.T) {
	many := make([]api.Event, api.MaxEvents+1)
	for _, threads := range wild() {
		for _, vars := range wild() {
			for _, stripes := range wild() {
				tr := sized(threads, vars, stripes)
				if threads >= 0 && threads <= 6 && vars >= 1 && vars <= 32 && stripes >= 1 && stripes <= vars {
					encodes(t, tr, body(t, tr))
					continue
				}
				for _, l := range [][]api.Event{nil, {}, {{Kind: api.Begin}}, {{}}} {
					tr.Events = l
					bare(t, tr, api.ErrArg)
				}
				tr.Events = many
				if _, e := trace.Encode(tr); e != api.ErrArg {
					t.Fatalf("Encode of %+v: %v", some(tr), e)
				}
			}
		}
	}
}

// long is a trace of so many events, of one thread that looks and loads for ever, each value as far from the last one as there may be.
func long(many int) api.Trace {
	tr := api.Trace{Threads: 6, Vars: 32, Stripes: 32, Events: make([]api.Event, 0, many)}
	tr.Events = append(tr.Events, api.Event{Kind: api.Begin, Thread: 5, V: api.MaxClock})
	for n := 0; len(tr.Events) < many; n++ {
		e := api.Event{Kind: api.Look, Thread: 5, At: 31}
		if n%2 == 1 {
			e.Kind, e.X = api.Load, int64(n/2%2-1)<<62
		}
		tr.Events = append(tr.Events, e)
	}
	return tr
}

// P15.1: as many events as there may be, and one more, which is told ahead of an event that may not come.
func TestP15_1Most(t *testing.T) {
	tr := long(api.MaxEvents)
	encodes(t, tr, body(t, tr))
	more := tr
	more.Events = append(slices.Clip(tr.Events), api.Event{Kind: api.Load, Thread: 5, At: 31})
	bare(t, more, api.ErrTooLarge)
	more.Events[0] = api.Event{}
	bare(t, more, api.ErrTooLarge)
	more.Events = more.Events[:api.MaxEvents]
	bare(t, more, api.ErrForm)
	more.Threads = 0
	bare(t, more, api.ErrForm)
}

// P15.1: events that may not come, one at each place of a trace with each Kind, and wherever bent traces have one: ErrForm.
func TestP15_1Form(t *testing.T) {
	tr := sized(2, 3, 2)
	for _, x := range kinds() {
		tr.Events = append(tr.Events, said(t, x[0])...)
	}
	for n := range tr.Events {
		for _, bad := range []api.Event{{}, {Kind: 14}, {Kind: 255}, {Kind: api.Wait, Thread: 2}, {Kind: api.Wait, Thread: -1}, {Kind: api.Wait, At: 1}, {Kind: api.Begin, Tx: 6}, {Kind: api.Begin, V: -1}, {Kind: api.Load, At: 3}} {
			other := tr
			other.Events = slices.Clone(tr.Events)
			other.Events[n] = bad
			bare(t, other, api.ErrForm)
		}
	}
	next, refused := sample.Noise(151), 0
	for _, tr := range traces(152, 40, 40) {
		for _, other := range sample.Bent(next, tr) {
			if n, _ := shape.Check(other); n < len(other.Events) {
				bare(t, other, api.ErrForm)
				refused++
			} else {
				encodes(t, other, body(t, other))
			}
		}
	}
	if refused < 500 {
		t.Fatal("so few were refused:", refused)
	}
	bare(t, api.Trace{Vars: 1, Stripes: 1, Events: said(t, "0 begin 0 0")}, api.ErrForm)
}

// P15.1: what was told shares nothing: neither with what was handed in, nor with what is told later on.
func TestP15_1Apart(t *testing.T) {
	tr := of(t, sized(2, 3, 2), "0 begin 0 0; 0 look 0 0; 0 load 2 7")
	was := of(t, sized(2, 3, 2), "0 begin 0 0; 0 look 0 0; 0 load 2 7")
	s, _ := trace.Encode(tr)
	tr.Events[0].V = 9
	a, _, _ := trace.Decode(s)
	b, _, _ := trace.Decode(s)
	a.Events[1].At = 1
	a.Events = append(a.Events, api.Event{})
	same(t, b, was, true)
	decodes(t, s, was)
}

// P15.1: traces that differ in one thing, or another, are not the same; of no events as of a list of none.
func TestP15_1Same(t *testing.T) {
	one := api.Event{Kind: api.Load, Thread: 1, Tx: 2, At: 3, V: 4, X: 5, Why: 6}
	base := func() api.Trace {
		return api.Trace{Threads: 2, Vars: 3, Stripes: 2, Events: []api.Event{{Kind: api.Begin}, one, {Kind: api.Wait}}}
	}
	same(t, base(), base(), true)
	for n, change := range []func(*api.Trace){
		func(tr *api.Trace) { tr.Threads++ }, func(tr *api.Trace) { tr.Vars++ }, func(tr *api.Trace) { tr.Stripes++ },
		func(tr *api.Trace) { tr.Threads, tr.Vars = 3, 2 }, func(tr *api.Trace) { tr.Vars, tr.Stripes = 2, 3 },
		func(tr *api.Trace) { tr.Threads += 1 << 32 }, func(tr *api.Trace) { tr.Vars += 1 << 32 }, func(tr *api.Trace) { tr.Stripes += 1 << 32 },
		func(tr *api.Trace) { tr.Events = nil }, func(tr *api.Trace) { tr.Events = tr.Events[:2] }, func(tr *api.Trace) { tr.Events = tr.Events[1:] },
		func(tr *api.Trace) { tr.Events = append(tr.Events, api.Event{}) }, func(tr *api.Trace) { tr.Events = append(tr.Events, one) },
		func(tr *api.Trace) { slices.Reverse(tr.Events) }, func(tr *api.Trace) { tr.Events[0], tr.Events[1] = tr.Events[1], tr.Events[0] },
	} {
		other := base()
		change(&other)
		same(t, other, base(), false)
		twice := base()
		change(&twice)
		same(t, other, twice, true)
		if trace.Same(other, base()) {
			t.Fatal("the same, changed by", n)
		}
	}
	for n := range base().Events {
		for _, change := range []func(*api.Event){
			func(e *api.Event) { e.Kind++ }, func(e *api.Event) { e.Thread++ }, func(e *api.Event) { e.Tx++ }, func(e *api.Event) { e.At++ },
			func(e *api.Event) { e.V++ }, func(e *api.Event) { e.X++ }, func(e *api.Event) { e.Why++ },
			func(e *api.Event) { e.Thread += 1 << 32 }, func(e *api.Event) { e.Tx += 1 << 32 }, func(e *api.Event) { e.At += 1 << 32 }, func(e *api.Event) { e.V -= 1 << 32 }, func(e *api.Event) { e.X -= 1 << 62 },
		} {
			other := base()
			change(&other.Events[n])
			same(t, other, base(), false)
		}
	}
	for _, size := range append(sizes(), api.Trace{}, sized(-1, 99, math.MaxInt)) {
		none := size
		none.Events = []api.Event{}
		spare := size
		spare.Events = make([]api.Event, 0, 9)
		one := size
		one.Events = make([]api.Event, 1)
		for _, tr := range []api.Trace{size, none, spare} {
			same(t, tr, size, true)
			same(t, tr, one, false)
		}
		if size.Vars == 0 || size.Vars > 32 {
			continue
		}
		encodes(t, none, body(t, size))
		encodes(t, spare, body(t, size))
	}
}

// R1: of traces with any numbers in them Encode answers bytes, or an error.
func TestR1(t *testing.T) {
	next := sample.Noise(153)
	far := func() int { return wild()[next(len(wild()))] }
	for range 20000 {
		tr := sized(next(8), 1+next(5), 1+next(3))
		for range next(5) {
			tr.Events = append(tr.Events, api.Event{Kind: uint8(next(16)), Thread: far(), Tx: far(), At: far(), V: far(), X: int64(far()), Why: uint8(next(9))})
		}
		s, e := trace.Encode(tr)
		is(t, "whether there are bytes", s != "", e == api.OK)
		same(t, tr, tr, true)
	}
	same(t, api.Trace{}, api.Trace{}, true)
	bare(t, api.Trace{}, api.ErrArg)
	refused(t, "", 0, api.ErrShort)
	refused(t, strings.Repeat("\x00", 5), 1, api.ErrSum)
}
