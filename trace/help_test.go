package trace_test

import (
	"encoding/binary"
	"encoding/hex"
	"hash/crc32"
	"reflect"
	"slices"
	"strings"
	"testing"

	"seesaw/api"
	"seesaw/bytes"
	"seesaw/delta"
	"seesaw/event"
	"seesaw/frame"
	"seesaw/sample"
	"seesaw/shape"
	"seesaw/trace"
	"seesaw/varint"
)

// sized is a trace without events.
func sized(threads, vars, stripes int) api.Trace {
	return api.Trace{Threads: threads, Vars: vars, Stripes: stripes}
}

// sizes are some over which traces may be, among them the least and the greatest.
func sizes() []api.Trace {
	return []api.Trace{sized(0, 1, 1), sized(1, 1, 1), sized(2, 1, 1), sized(2, 3, 2), sized(3, 4, 4), sized(4, 5, 1), sized(6, 7, 3), sized(6, 32, 32), sized(6, 32, 31), sized(1, 32, 1)}
}

// said are the events of texts, with a ; between each two.
func said(t testing.TB, s string) []api.Event {
	t.Helper()
	var l []api.Event
	for text := range strings.SplitSeq(s, ";") {
		if text = strings.TrimSpace(text); text == "" {
			continue
		}
		e, wrong := event.Parse(text)
		if wrong != api.OK {
			t.Fatalf("%q is no event", text)
		}
		l = append(l, e)
	}
	return l
}

// of is a trace over these sizes with such events.
func of(t testing.TB, size api.Trace, s string) api.Trace {
	t.Helper()
	size.Events = said(t, s)
	return size
}

// traces are some that are well-formed, over any sizes.
func traces(seed uint64, many, most int) []api.Trace {
	next := sample.Noise(seed)
	var l []api.Trace
	for n := range many {
		size := sizes()[n%len(sizes())]
		l = append(l, sample.Formed(next, size, 1+next(most)))
	}
	return l
}

// bits are bytes that are written as hexadecimal digits.
func bits(t testing.TB, s string) string {
	t.Helper()
	b, err := hex.DecodeString(strings.ReplaceAll(s, " ", ""))
	if err != nil {
		t.Fatal(s, err)
	}
	return string(b)
}

// shown are a text's bytes, or the first of many.
func shown(s string) string {
	if len(s) > 100 {
		return hex.EncodeToString([]byte(s[:100])) + ".."
	}
	return hex.EncodeToString([]byte(s))
}

// some is a trace as it is shown, or the beginning of one of many events.
func some(tr api.Trace) api.Trace {
	tr.Events = tr.Events[:min(len(tr.Events), 200)]
	return tr
}

// is tells that a call tells just this.
func is[T comparable](t testing.TB, name string, is, want T) {
	t.Helper()
	if is != want {
		t.Fatalf("%s: %v; want %v", name, is, want)
	}
}

// number are a number's bytes, by chapter 1.
func number(n int) string { return string(binary.AppendUvarint(nil, uint64(n))) }

// framed is the frame of a body, by chapter 3.
func framed(body string) string {
	s := number(len(body)) + body
	return s + string(binary.LittleEndian.AppendUint32(nil, crc32.ChecksumIEEE([]byte(s))))
}

// row are the bytes of a body's numbers, one behind the other.
type row []string

// split are the numbers that bytes are.
func split(s string) row {
	var l row
	for from, at := 0, 0; at < len(s); at++ {
		if s[at] < 128 {
			l = append(l, s[from:at+1])
			from = at + 1
		}
	}
	return l
}

// body are the bytes of all of them.
func (l row) body() string { return strings.Join(l, "") }

// at is where a number begins.
func (l row) at(n int) int { return len(l[:n].body()) }

// with is the body with other bytes in the place of a number.
func (l row) with(n int, text string) string {
	return l[:n].body() + text + l[n+1:].body()
}

// sizing are the first four numbers of a body.
func sizing(tr api.Trace, many int) string {
	return number(tr.Threads) + number(tr.Vars) + number(tr.Stripes) + number(many)
}

// told are the bytes of each event, by chapter 14; those of what may not be told, and of what is behind it, are left out.
func told(t testing.TB, tr api.Trace) []string {
	t.Helper()
	c, _ := delta.New(tr.Threads, tr.Vars, tr.Stripes)
	var l []string
	for _, e := range tr.Events {
		w, _ := bytes.NewWriter(100)
		if c.Write(w, e) != api.OK {
			break
		}
		l = append(l, w.Text())
	}
	return l
}

// body is the one of a trace whose events may be told, by the chapter's words.
func body(t testing.TB, tr api.Trace) string {
	t.Helper()
	l := told(t, tr)
	is(t, "how many events may be told", len(l), len(tr.Events))
	return sizing(tr, len(tr.Events)) + strings.Join(l, "")
}

// modelled is what Decode is to answer of whatever bytes, by the chapter's words.
func modelled(s string) (tr api.Trace, place int, e api.Errno) {
	body, place, e := frame.Unwrap(s)
	if e != api.OK {
		return tr, place, e
	}
	left := body
	size := func(least, most int) int {
		n, size, wrong := varint.Get(left)
		if wrong == api.OK && (n < uint64(least) || n > uint64(most)) {
			wrong = api.ErrRange
		}
		if e == api.OK {
			e = wrong
		}
		if e == api.OK {
			left = left[size:]
		}
		return int(n)
	}
	here := func() int { return len(s) - 4 - len(left) }
	tr = sized(size(0, 6), 0, 0)
	tr.Vars = size(1, 32)
	tr.Stripes = size(1, tr.Vars)
	many := size(0, min(tr.Threads, 1)<<20)
	if e != api.OK {
		return api.Trace{}, here(), e
	}
	c, _ := delta.New(tr.Threads, tr.Vars, tr.Stripes)
	for range many {
		r, _ := bytes.NewReader(left)
		next, wrong := c.Read(r)
		if wrong != api.OK {
			return api.Trace{}, here() + r.At(), wrong
		}
		tr.Events = append(tr.Events, next)
		if _, wrong := shape.Check(tr); wrong != api.OK {
			return api.Trace{}, here(), wrong
		}
		left = left[r.At():]
	}
	if left != "" {
		return api.Trace{}, here(), api.ErrLong
	}
	return tr, 0, api.OK
}

// stands is a trace as it is, and a call that tells that it still is that.
func stands(t testing.TB, tr api.Trace) (check func()) {
	all := tr.Events[:cap(tr.Events)]
	was := slices.Clone(all)
	return func() {
		t.Helper()
		if !slices.Equal(all, was) {
			t.Fatalf("what was handed in became %+v; it was %+v", some(tr), was[:min(len(was), 200)])
		}
	}
}

// encodes tells that a trace has just this body, and that that is this trace's.
func encodes(t testing.TB, tr api.Trace, body string) {
	t.Helper()
	check := stands(t, tr)
	s, e := trace.Encode(tr)
	check()
	if want := framed(body); s != want || e != api.OK {
		t.Fatalf("Encode of %+v: %s, %v; want %s", some(tr), shown(s), e, shown(want))
	}
	decodes(t, s, tr)
}

// decodes tells that bytes are those of a trace.
func decodes(t testing.TB, s string, tr api.Trace) {
	t.Helper()
	back, place, e := trace.Decode(s)
	if back.Threads != tr.Threads || back.Vars != tr.Vars || back.Stripes != tr.Stripes || !slices.Equal(back.Events, tr.Events) || place != 0 || e != api.OK {
		t.Fatalf("Decode of %s: %+v, %d, %v; want %+v", shown(s), some(back), place, e, some(tr))
	}
	same(t, back, tr, true)
}

// bare tells that a trace has no bytes.
func bare(t testing.TB, tr api.Trace, want api.Errno) {
	t.Helper()
	check := stands(t, tr)
	s, e := trace.Encode(tr)
	check()
	if s != "" || e != want {
		t.Fatalf("Encode of %+v: %s, %v; want %v", some(tr), shown(s), e, want)
	}
}

// refused tells that Decode answers just an error, and a place in all of the text.
func refused(t testing.TB, s string, at int, want api.Errno) {
	t.Helper()
	tr, place, e := trace.Decode(s)
	if !reflect.DeepEqual(tr, api.Trace{}) || place != at || e != want {
		t.Fatalf("Decode of %s: %+v, %d, %v; want %d, %v", shown(s), some(tr), place, e, at, want)
	}
}

// wrong tells that Decode refuses a body, as it is in a frame, at a place of the body.
func wrong(t testing.TB, body string, at int, want api.Errno) {
	t.Helper()
	refused(t, framed(body), len(number(len(body)))+at, want)
}

// again tells that Decode answers of whatever bytes what the chapter's words say; that what is refused is so within them, or at their end; and that what is not is well-formed, and has just these bytes.
func again(t testing.TB, s string) api.Errno {
	t.Helper()
	want, at, e := modelled(s)
	if e != api.OK {
		refused(t, s, at, e)
		if at < 0 || at > len(s) {
			t.Fatalf("Decode of %s: %d", shown(s), at)
		}
		return e
	}
	decodes(t, s, want)
	back, _, _ := trace.Decode(s)
	if n, e := shape.Check(back); n != len(back.Events) || e != api.OK {
		t.Fatalf("Decode of %s: %+v, which is not well-formed", shown(s), some(back))
	}
	if u, e := trace.Encode(back); u != s || e != api.OK {
		t.Fatalf("Encode of %+v: %s, %v; want %s", some(back), shown(u), e, shown(s))
	}
	return api.OK
}

// same tells what Same answers, both ways round.
func same(t testing.TB, a, b api.Trace, want bool) {
	t.Helper()
	checkA, checkB := stands(t, a), stands(t, b)
	if trace.Same(a, b) != want || trace.Same(b, a) != want {
		t.Fatalf("Same of %+v and %+v: %v, %v; want %v", some(a), some(b), trace.Same(a, b), trace.Same(b, a), want)
	}
	checkA()
	checkB()
}
