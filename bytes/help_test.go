package bytes_test

import (
	"math"
	"strings"
	"testing"

	"seesaw/api"
	"seesaw/bytes"
	"seesaw/varint"
)

// writer is a writer of so many bytes at most, without any.
func writer(t testing.TB, most int) *bytes.Writer {
	t.Helper()
	w, e := bytes.NewWriter(most)
	if w == nil || e != api.OK {
		t.Fatalf("NewWriter of %d: %v, %v", most, w, e)
	}
	holds(t, w, "")
	return w
}

// holds tells that a writer has just these bytes.
func holds(t testing.TB, w *bytes.Writer, want string) {
	t.Helper()
	if w.Len() != len(want) || w.Text() != want {
		t.Fatalf("written: %d: % x; want % x", w.Len(), w.Text(), want)
	}
}

// reader is a reader at a place of a text.
func reader(t testing.TB, s string, at int) *bytes.Reader {
	t.Helper()
	r, e := bytes.NewReader(s)
	if r == nil || e != api.OK {
		t.Fatalf("NewReader of %d bytes: %v, %v", len(s), r, e)
	}
	stands(t, r, 0, len(s))
	if p, e := r.Raw(at); p != s[:at] || e != api.OK {
		t.Fatalf("Raw of %d: % x, %v; want % x", at, p, e, s[:at])
	}
	stands(t, r, at, len(s)-at)
	return r
}

// stands tells where a reader is, and that nothing was wrong.
func stands(t testing.TB, r *bytes.Reader, at, left int) {
	t.Helper()
	place, e := r.Wrong()
	if r.At() != at || r.Left() != left || place != 0 || e != api.OK {
		t.Fatalf("at %d, left %d, wrong %d, %v; want %d, %d, nothing", r.At(), r.Left(), place, e, at, left)
	}
}

// broke tells where a reader is, and what is wrong there.
func broke(t testing.TB, r *bytes.Reader, at, left int, want api.Errno) {
	t.Helper()
	place, e := r.Wrong()
	if r.At() != at || r.Left() != left || place != at || e != want {
		t.Fatalf("at %d, left %d, wrong %d, %v; want %d, %d, %d, %v", r.At(), r.Left(), place, e, at, left, at, want)
	}
}

// answers tells that a call of a reader told what it should.
func answers[T comparable](t testing.TB, x T, e api.Errno, want T) {
	t.Helper()
	if x != want || e != api.OK {
		t.Fatalf("read: %v, %v; want %v", x, e, want)
	}
}

// refuses tells that a call of a reader answered just an error.
func refuses[T comparable](t testing.TB, x T, e, want api.Errno) {
	t.Helper()
	var none T
	if x != none || e != want {
		t.Fatalf("read: %v, %v; want %v", x, e, want)
	}
}

// call is one call of a reader; what it told is told as the bytes that were gone over.
type call struct {
	name string
	do   func(r *bytes.Reader) (string, api.Errno)
}

func callByte() call {
	return call{"Byte", func(r *bytes.Reader) (string, api.Errno) {
		b, e := r.Byte()
		if e != api.OK {
			return strings.Repeat("?", int(b)), e
		}
		return string([]byte{b}), e
	}}
}

func callNum(most uint64) call {
	return call{"Num", func(r *bytes.Reader) (string, api.Errno) {
		n, e := r.Num(most)
		if e != api.OK {
			return strings.Repeat("?", int(n)), e
		}
		return varint.Put(n), e
	}}
}

func callInt() call {
	return call{"Int", func(r *bytes.Reader) (string, api.Errno) {
		x, e := r.Int()
		if e != api.OK {
			return strings.Repeat("?", int(varint.Zig(x))), e
		}
		return varint.Put(varint.Zig(x)), e
	}}
}

func callRaw(n int) call {
	return call{"Raw", func(r *bytes.Reader) (string, api.Errno) { return r.Raw(n) }}
}

func callEnd() call {
	return call{"End", func(r *bytes.Reader) (string, api.Errno) { return "", r.End() }}
}

func callFail(place int, e api.Errno) call {
	return call{"Fail", func(r *bytes.Reader) (string, api.Errno) { return "", r.Fail(place, e) }}
}

// calls are all of a reader, with what they may be handed.
func calls() []call {
	return []call{
		callByte(),
		callNum(0), callNum(127), callNum(math.MaxUint64),
		callInt(),
		callRaw(math.MinInt), callRaw(-1), callRaw(0), callRaw(1), callRaw(2), callRaw(math.MaxInt),
		callEnd(),
		callFail(-1, api.ErrForm), callFail(0, api.OK), callFail(0, api.ErrForm), callFail(1, api.ErrState), callFail(math.MaxInt, api.ErrForm),
	}
}

// edges are texts of edge bytes, all of up to so many.
func edges(most int) []string {
	texts, last := []string{""}, []string{""}
	for range most {
		var next []string
		for _, s := range last {
			for _, b := range []string{"\x00", "\x01", "\x7f", "\x80", "\xff"} {
				next = append(next, s+b)
			}
		}
		texts, last = append(texts, next...), next
	}
	return texts
}

// numbers are small ones, and those about each power of 2.
func numbers() []uint64 {
	l := []uint64{0, 1, 2, 3, 126, 127, 128, 129, 255, 256, 300}
	for i := 9; i < 64; i++ {
		p := uint64(1) << i
		l = append(l, p-1, p, p+1)
	}
	return append(l, math.MaxUint64-1, math.MaxUint64)
}
