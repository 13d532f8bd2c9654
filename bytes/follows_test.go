package bytes_test

import (
	"math"
	"strings"
	"testing"
	"unsafe"

	"seesaw/api"
	"seesaw/bytes"
	"seesaw/varint"
)

// P2.3: what was written is read, one behind the other; then nothing is left.
func TestP2_3(t *testing.T) {
	w := writer(t, api.MaxBytes)
	all := numbers()
	for i, n := range all {
		x, s := varint.Zag(n), strings.Repeat("\x80", i)
		if w.Num(n) != api.OK || w.Byte(byte(n)) != api.OK || w.Raw(s) != api.OK || w.Int(x) != api.OK {
			t.Fatal("refused")
		}
	}
	r, at := reader(t, w.Text(), 0), 0
	gone := func(size int) {
		t.Helper()
		at += size
		stands(t, r, at, w.Len()-at)
	}
	for i, n := range all {
		m, e := r.Num(n)
		answers(t, m, e, n)
		gone(len(varint.Put(n)))
		b, e := r.Byte()
		answers(t, b, e, byte(n))
		gone(1)
		s, e := r.Raw(i)
		answers(t, s, e, strings.Repeat("\x80", i))
		gone(i)
		x, e := r.Int()
		answers(t, x, e, varint.Zag(n))
		gone(len(varint.Put(n)))
	}
	if e := r.End(); e != api.OK || r.Left() != 0 || r.At() != w.Len() {
		t.Error(e, r.Left(), r.At())
	}
}

// goes does one call, and tells what must be, whatever the bytes: places, and what is wrong; what is read, written anew, is what was gone over.
func goes(t testing.TB, r *bytes.Reader, s string, c call) {
	t.Helper()
	at := r.At()
	place, ahead := r.Wrong()
	told, e := c.do(r)
	now, wrong := r.Wrong()
	if r.At()+r.Left() != len(s) || r.At() < 0 || r.At() > len(s) {
		t.Fatalf("%s of % x: at %d, left %d", c.name, s, r.At(), r.Left())
	}
	switch {
	case ahead != api.OK:
		if e != ahead || told != "" || r.At() != at || now != place || wrong != ahead {
			t.Fatalf("%s of % x: %v at %d behind %v at %d", c.name, s, e, now, ahead, place)
		}
	case e == api.OK:
		if wrong != api.OK || now != 0 || r.At() != at+len(told) || s[at:r.At()] != told {
			t.Fatalf("%s of % x at %d: % x, place %d", c.name, s, at, told, r.At())
		}
	case c.name == "Fail":
		if told != "" || r.At() > at || wrong != api.OK && (wrong != e || now != r.At()) || wrong == api.OK && r.At() != at {
			t.Fatalf("%s of % x at %d: %v, wrong %v at %d", c.name, s, at, e, wrong, now)
		}
	case told != "" || wrong != e || now != at || r.At() != at:
		t.Fatalf("%s of % x at %d: %v, wrong %v at %d, place %d", c.name, s, at, e, wrong, now, r.At())
	}
}

// P2.4, P2.5: all texts of some edge bytes, gone over by each row of three calls.
func TestP2_4P2_5(t *testing.T) {
	all := calls()
	for _, s := range edges(3) {
		for _, a := range all {
			for _, b := range all {
				for _, c := range all {
					r, e := bytes.NewReader(s)
					if e != api.OK {
						t.Fatal(e)
					}
					goes(t, r, s, a)
					goes(t, r, s, b)
					goes(t, r, s, c)
				}
			}
		}
	}
}

// then writes what was read, if it was.
func then[T any](write func(T) api.Errno) func(x T, e api.Errno) api.Errno {
	return func(x T, e api.Errno) api.Errno {
		if e != api.OK {
			return e
		}
		return write(x)
	}
}

// P2.5: what is read, written anew by the call of that name, are the bytes that were gone over.
func TestP2_5(t *testing.T) {
	ways := []func(r *bytes.Reader, w *bytes.Writer) api.Errno{
		func(r *bytes.Reader, w *bytes.Writer) api.Errno { return then(w.Byte)(r.Byte()) },
		func(r *bytes.Reader, w *bytes.Writer) api.Errno { return then(w.Num)(r.Num(math.MaxUint64)) },
		func(r *bytes.Reader, w *bytes.Writer) api.Errno { return then(w.Int)(r.Int()) },
		func(r *bytes.Reader, w *bytes.Writer) api.Errno { return then(w.Raw)(r.Raw(1)) },
	}
	for _, s := range append(edges(4), strings.Repeat("\xff", 9)+"\x01", strings.Repeat("\x80", 9)+"\x01") {
		for _, way := range ways {
			r, w := reader(t, s, 0), writer(t, len(s))
			for r.Left() > 0 && way(r, w) == api.OK {
			}
			holds(t, w, s[:r.At()])
		}
	}
}

// R1: what is told shares no memory with what was handed in.
func TestR1Memory(t *testing.T) {
	s := strings.Repeat("seesaw", 10)
	r := reader(t, s, 6)
	p, e := r.Raw(12)
	answers(t, p, e, s[6:18])
	if unsafe.StringData(p) == unsafe.StringData(s[6:]) {
		t.Error("a piece of the text itself")
	}
}

// R1: a writer and a reader that nobody made end each call, too: there is no room, and no byte.
func TestR1Zero(t *testing.T) {
	w := new(bytes.Writer)
	if w.Byte(0) != api.ErrTooLarge || w.Num(0) != api.ErrTooLarge || w.Int(0) != api.ErrTooLarge || w.Raw("a") != api.ErrTooLarge || w.Raw("") != api.OK {
		t.Error("written")
	}
	holds(t, w, "")
	for _, c := range calls() {
		r := new(bytes.Reader)
		stands(t, r, 0, 0)
		goes(t, r, "", c)
	}
}

// R1: whatever bytes and calls fuzzing comes to.
func FuzzReader(f *testing.F) {
	f.Add("\xac\x02\x01ab", "\x03\x04\x07\x07\x0b")
	f.Add("\x80", "\x03\x00")
	f.Add("\x01\x02\x03", "\x00\x0e\x0f")
	f.Fuzz(func(t *testing.T, s, row string) {
		r, e := bytes.NewReader(s)
		if e != api.OK {
			t.Skip()
		}
		all := calls()
		for i := range len(row) {
			goes(t, r, s, all[int(row[i])%len(all)])
		}
	})
}
