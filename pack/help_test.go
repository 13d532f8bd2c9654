package pack_test

import (
	"encoding/hex"
	"math"
	"reflect"
	"slices"
	"strings"
	"testing"

	"seesaw/api"
	"seesaw/frame"
	"seesaw/pack"
	"seesaw/sample"
	"seesaw/setup"
	"seesaw/varint"
)

// Short names of what is made for tests.
var (
	lit, local, got, add  = sample.Lit, sample.Local, sample.Got, sample.Of
	set, read, write      = sample.Set, sample.Read, sample.Write
	branch, loop          = sample.If, sample.Loop
	retry, retries        = sample.Retry, sample.Retries
	orElse, leave         = sample.OrElse, sample.Return
	running, block, noise = sample.Running, sample.Block, sample.Noise
)

// tx is a transaction, thread are some of them.
type (
	tx     = []api.Stmt
	thread = []tx
)

// one is a setup of a thread, with a transaction of these statements behind so many others.
func one(behind int, l ...api.Stmt) api.Setup {
	return running(append(make(thread, behind), l))
}

// full is a setup with as many threads, transactions, statements and expressions as there may be, and far values.
func full() api.Setup {
	const far = math.MinInt64
	value := add(api.Add, add(api.Add, lit(far), lit(far)), add(api.Add, lit(far), lit(far))) // of 7 expressions
	var l tx
	for range api.MaxStmts {
		l = append(l, leave(value))
	}
	l[0] = leave(add(api.Sub, value, add(api.Sub, value, value))) // 16 more
	for i := 1; i < 5; i++ {
		l[i] = write(value, lit(far)) // one more each
	}
	s := api.Setup{Stripes: api.MaxVars, Clock: api.MaxClock, Tries: api.MaxTries, Init: slices.Repeat([]int64{far}, api.MaxVars)}
	for range api.MaxThreads {
		s.Threads = append(s.Threads, slices.Repeat(thread{l}, api.MaxTx))
	}
	return s
}

// setups are setups that may be: of few bytes, of many, at the limits.
func setups() []api.Setup { return append(sample.Setups(), full()) }

// field is a number of a body: its bytes, and from where to where it may be.
type field struct {
	text        string
	least, most uint64
}

// row are a body's numbers, one behind the other.
type row []field

func (l *row) num(n, least, most int) {
	*l = append(*l, field{varint.Put(uint64(n)), uint64(least), uint64(most)})
}

func (l *row) whole(x int64) {
	*l = append(*l, field{varint.Put(varint.Zig(x)), 0, math.MaxUint64})
}

func (l *row) expr(e api.Expr) {
	l.num(int(e.Op), 1, 8)
	switch e.Op {
	case api.Lit:
		l.whole(e.N)
	case api.Local:
		l.num(int(e.N), 0, 7)
	case api.Got:
		l.num(int(e.N), 0, 5)
	default:
		l.expr(e.Args[0])
		l.expr(e.Args[1])
	}
}

func (l *row) block(stmts tx) {
	l.num(len(stmts), 0, 40)
	for _, s := range stmts {
		l.num(int(s.Kind), 1, 8)
		if s.Kind == api.Set || s.Kind == api.Read {
			l.num(s.To, 0, 7)
		}
		if s.Kind != api.Retry && s.Kind != api.OrElse {
			l.expr(s.A)
		}
		if s.Kind == api.Write {
			l.expr(s.B)
		}
		if s.Kind == api.If || s.Kind == api.Loop || s.Kind == api.OrElse {
			l.block(s.Body)
		}
		if s.Kind == api.If || s.Kind == api.OrElse {
			l.block(s.Else)
		}
	}
}

// fields are the numbers of a setup's body, by the chapter's words one behind the other.
func fields(s api.Setup) row {
	var l row
	l.num(len(s.Init), 1, 32)
	for _, x := range s.Init {
		l.whole(x)
	}
	l.num(s.Stripes, 1, len(s.Init))
	l.num(s.Clock, 0, 1<<40)
	l.num(s.Tries, 1, 1000)
	l.num(len(s.Threads), 0, 6)
	for _, one := range s.Threads {
		l.num(len(one), 0, 6)
		for _, x := range one {
			l.block(x)
		}
	}
	return l
}

// body are the bytes of all of them.
func (l row) body() string {
	var b strings.Builder
	for _, f := range l {
		b.WriteString(f.text)
	}
	return b.String()
}

// with is the body with other bytes in the place of one number.
func (l row) with(i int, text string) string {
	l = slices.Clone(l)
	l[i].text = text
	return l.body()
}

// at is where a number begins in the body.
func (l row) at(i int) int { return len(l[:i].body()) }

// fault is what is wrong in a body, and where.
type fault struct {
	at int
	e  api.Errno
}

// model reads a body by the chapter's words; it panics with the first fault.
type model struct {
	text string
	at   int
}

func (m *model) fail(at int, e api.Errno) { panic(fault{at, e}) }

func (m *model) any() uint64 {
	n, size, e := varint.Get(m.text[m.at:])
	if e != api.OK {
		m.fail(m.at, e)
	}
	m.at += size
	return n
}

func (m *model) num(least, most int) int {
	at := m.at
	n := m.any()
	if n < uint64(least) || n > uint64(most) {
		m.fail(at, api.ErrRange)
	}
	return int(n)
}

func (m *model) expr(deep int) (e api.Expr) {
	at := m.at
	e.Op = uint8(m.num(1, 8))
	if deep > 6 {
		m.fail(at, api.ErrTooLarge)
	}
	switch e.Op {
	case 1:
		e.N = varint.Zag(m.any())
	case 2:
		e.N = int64(m.num(0, 7))
	case 3:
		e.N = int64(m.num(0, 5))
	default:
		first := m.expr(deep + 1)
		e.Args = []api.Expr{first, m.expr(deep + 1)}
	}
	return e
}

func (m *model) block(deep int) (l tx) {
	at := m.at
	many := m.num(0, 40)
	if many > 0 && deep > 6 {
		m.fail(at, api.ErrTooLarge)
	}
	for range many {
		s := api.Stmt{Kind: uint8(m.num(1, 8))}
		switch s.Kind {
		case 1, 2:
			s.To = m.num(0, 7)
			s.A = m.expr(1)
		case 3:
			s.A = m.expr(1)
			s.B = m.expr(1)
		case 4:
			s.A = m.expr(1)
			s.Body = m.block(deep + 1)
			s.Else = m.block(deep + 1)
		case 5:
			s.A = m.expr(1)
			s.Body = m.block(deep + 1)
		case 7:
			s.Body = m.block(deep + 1)
			s.Else = m.block(deep + 1)
		case 8:
			s.A = m.expr(1)
		}
		l = append(l, s)
	}
	return l
}

func (m *model) setup() (s api.Setup) {
	vars := m.num(1, 32)
	for range vars {
		s.Init = append(s.Init, varint.Zag(m.any()))
	}
	s.Stripes = m.num(1, vars)
	s.Clock = m.num(0, 1<<40)
	s.Tries = m.num(1, 1000)
	for range m.num(0, 6) {
		var l thread
		for range m.num(0, 6) {
			l = append(l, m.block(1))
		}
		s.Threads = append(s.Threads, l)
	}
	if m.at < len(m.text) {
		m.fail(m.at, api.ErrLong)
	}
	if setup.Check(s) != api.OK {
		m.fail(m.at, api.ErrForm)
	}
	return s
}

// modelled is what Decode must answer of whatever bytes come.
func modelled(s string) (x api.Setup, place int, e api.Errno) {
	body, place, e := frame.Unwrap(s)
	if e != api.OK {
		return x, place, e
	}
	defer func() {
		switch f := recover().(type) {
		case nil:
		case fault:
			x, place, e = api.Setup{}, len(s)-4-len(body)+f.at, f.e
		default:
			panic(f)
		}
	}()
	return (&model{text: body}).setup(), 0, api.OK
}

// shown are a text's bytes, or the first of many.
func shown(s string) string {
	if len(s) > 60 {
		return hex.EncodeToString([]byte(s[:60])) + ".."
	}
	return hex.EncodeToString([]byte(s))
}

// bytesOf are bytes that are written as digits, with spaces between them.
func bytesOf(t testing.TB, digits string) string {
	t.Helper()
	b, e := hex.DecodeString(strings.ReplaceAll(digits, " ", ""))
	if e != nil {
		t.Fatal(e)
	}
	return string(b)
}

// framed is the frame of a body.
func framed(t testing.TB, body string) string {
	t.Helper()
	s, e := frame.Wrap(body)
	if e != api.OK {
		t.Fatalf("Wrap of %s: %v", shown(body), e)
	}
	return s
}

// encoded are the bytes of a setup that may be.
func encoded(t testing.TB, x api.Setup) string {
	t.Helper()
	s, e := pack.Encode(x)
	if e != api.OK {
		t.Fatalf("Encode of %v: %v", x, e)
	}
	return s
}

// packs tells that a setup's bytes are those of a body, and that these are the setup's alone.
func packs(t testing.TB, x api.Setup, body string) {
	t.Helper()
	s := encoded(t, x)
	if want := framed(t, body); s != want {
		t.Fatalf("Encode of %v: %s; want %s", x, shown(s), shown(want))
	}
	y, place, e := pack.Decode(s)
	if !setup.Same(x, y) || place != 0 || e != api.OK {
		t.Fatalf("Decode of %s: %v, %d, %v; want %v", shown(s), y, place, e, x)
	}
}

// form tells that a setup has no bytes, as it may not be.
func form(t testing.TB, x api.Setup) {
	t.Helper()
	if s, e := pack.Encode(x); s != "" || e != api.ErrForm {
		t.Fatalf("Encode of %v: %s, %v", x, shown(s), e)
	}
}

// refused tells that Decode answers just an error, and a place in all of the text.
func refused(t testing.TB, s string, at int, want api.Errno) {
	t.Helper()
	x, place, e := pack.Decode(s)
	if !reflect.DeepEqual(x, api.Setup{}) || place != at || e != want {
		t.Fatalf("Decode of %s: %v, %d, %v; want %d, %v", shown(s), x, place, e, at, want)
	}
}

// wrong tells that Decode refuses a body, as it is in a frame, at a place of the body.
func wrong(t testing.TB, body string, at int, want api.Errno) {
	t.Helper()
	s := framed(t, body)
	refused(t, s, len(s)-4-len(body)+at, want)
}

// again tells that Decode answers of whatever bytes what the chapter's words say; that what is refused is so within them, or at their end; and that what is not may be, and has just these bytes.
func again(t testing.TB, s string) api.Errno {
	t.Helper()
	want, at, e := modelled(s)
	if e != api.OK {
		refused(t, s, at, e)
		if at < 0 || at > len(s) {
			t.Fatalf("Decode of %s: %d", shown(s), at)
		}
		return e
	}
	x, place, e := pack.Decode(s)
	if !setup.Same(x, want) || place != 0 || e != api.OK {
		t.Fatalf("Decode of %s: %v, %d, %v; want %v", shown(s), x, place, e, want)
	}
	if setup.Check(x) != api.OK {
		t.Fatalf("Decode of %s: %v, which may not be", shown(s), x)
	}
	if back := encoded(t, x); back != s {
		t.Fatalf("Encode of %v: %s; want %s", x, shown(back), shown(s))
	}
	return api.OK
}
