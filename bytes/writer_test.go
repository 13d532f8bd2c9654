package bytes_test

import (
	"math"
	"strings"
	"testing"

	"seesaw/api"
	"seesaw/bytes"
	"seesaw/varint"
)

// P2.1: the chapter's example.
func TestP2_1Example(t *testing.T) {
	w := writer(t, 5)
	if w.Num(300) != api.OK || w.Int(-1) != api.OK || w.Raw("ab") != api.OK {
		t.Fatal("refused")
	}
	holds(t, w, "\xac\x02\x01\x61\x62")
}

// P2.1: each byte, number and text, behind all.
func TestP2_1Written(t *testing.T) {
	w, want := writer(t, 1<<16), ""
	wrote := func(e api.Errno, s string) {
		t.Helper()
		if e != api.OK {
			t.Fatal(e)
		}
		want += s
		holds(t, w, want)
	}
	for b := range 256 {
		wrote(w.Byte(byte(b)), string([]byte{byte(b)}))
	}
	for _, n := range numbers() {
		wrote(w.Num(n), varint.Put(n))
		wrote(w.Int(int64(n)), varint.Put(varint.Zig(int64(n))))
		wrote(w.Int(-int64(n)), varint.Put(varint.Zig(-int64(n))))
	}
	for _, s := range []string{"", "a", "\x00", "\xff\x80", "seesaw", strings.Repeat("z", 1000), "\u00e4\u20ac"} {
		wrote(w.Raw(s), s)
	}
}

// P2.1: bytes that the words of the chapter name, by themselves.
func TestP2_1Bytes(t *testing.T) {
	for _, x := range []struct {
		do   func(w *bytes.Writer) api.Errno
		want string
	}{
		{func(w *bytes.Writer) api.Errno { return w.Byte(0) }, "\x00"},
		{func(w *bytes.Writer) api.Errno { return w.Byte(200) }, "\xc8"},
		{func(w *bytes.Writer) api.Errno { return w.Num(0) }, "\x00"},
		{func(w *bytes.Writer) api.Errno { return w.Num(200) }, "\xc8\x01"},
		{func(w *bytes.Writer) api.Errno { return w.Num(math.MaxUint64) }, strings.Repeat("\xff", 9) + "\x01"},
		{func(w *bytes.Writer) api.Errno { return w.Int(0) }, "\x00"},
		{func(w *bytes.Writer) api.Errno { return w.Int(1) }, "\x02"},
		{func(w *bytes.Writer) api.Errno { return w.Int(-70) }, "\x8b\x01"},
		{func(w *bytes.Writer) api.Errno { return w.Int(math.MinInt64) }, strings.Repeat("\xff", 9) + "\x01"},
		{func(w *bytes.Writer) api.Errno { return w.Int(math.MaxInt64) }, "\xfe" + strings.Repeat("\xff", 8) + "\x01"},
		{func(w *bytes.Writer) api.Errno { return w.Raw("\x80") }, "\x80"},
	} {
		w := writer(t, 10)
		if e := x.do(w); e != api.OK {
			t.Fatal(e)
		}
		holds(t, w, x.want)
	}
}

// P2.1: NewWriter's error, and what it is just not.
func TestP2_1NewWriter(t *testing.T) {
	for _, most := range []int{-1, -2, math.MinInt, api.MaxBytes + 1, math.MaxInt} {
		if w, e := bytes.NewWriter(most); w != nil || e != api.ErrArg {
			t.Errorf("NewWriter of %d: %v, %v", most, w, e)
		}
	}
	for _, most := range []int{0, 1, api.MaxBytes - 1, api.MaxBytes} {
		writer(t, most)
	}
}

// P2.1: a nil writer, whatever is written.
func TestP2_1Nil(t *testing.T) {
	var w *bytes.Writer
	for _, e := range []api.Errno{w.Byte(0), w.Num(0), w.Num(math.MaxUint64), w.Int(0), w.Int(-1), w.Raw(""), w.Raw("a"), w.Raw(strings.Repeat("a", api.MaxBytes+1))} {
		if e != api.ErrNil {
			t.Error(e)
		}
	}
	holds(t, w, "")
}

// P2.1: what was told stays as it was, whatever is written later on; writers share nothing.
func TestP2_1Apart(t *testing.T) {
	w, v := writer(t, 100), writer(t, 100)
	var told []string
	for i := range 100 {
		told = append(told, w.Text())
		if w.Byte('a'+byte(i%26)) != api.OK || v.Byte('#') != api.OK {
			t.Fatal("refused")
		}
	}
	for i, s := range told {
		if s != w.Text()[:i] {
			t.Errorf("told: %s", s)
		}
	}
	holds(t, v, strings.Repeat("#", 100))
}

// P2.6: for each bound, and each thing that may be written: it fits just if there is room; else all is as it was.
func TestP2_6Bounds(t *testing.T) {
	things := []struct {
		s  string
		do func(w *bytes.Writer) api.Errno
	}{
		{"", func(w *bytes.Writer) api.Errno { return w.Raw("") }},
		{"b", func(w *bytes.Writer) api.Errno { return w.Byte('b') }},
		{"\x7f", func(w *bytes.Writer) api.Errno { return w.Num(127) }},
		{"\x80\x01", func(w *bytes.Writer) api.Errno { return w.Num(128) }},
		{"\x7f", func(w *bytes.Writer) api.Errno { return w.Int(-64) }},
		{"\x80\x01", func(w *bytes.Writer) api.Errno { return w.Int(64) }},
		{strings.Repeat("\xff", 9) + "\x01", func(w *bytes.Writer) api.Errno { return w.Num(math.MaxUint64) }},
		{strings.Repeat("\xff", 9) + "\x01", func(w *bytes.Writer) api.Errno { return w.Int(math.MinInt64) }},
		{"abc", func(w *bytes.Writer) api.Errno { return w.Raw("abc") }},
	}
	for most := range 14 {
		for had := range most + 1 {
			for _, x := range things {
				w, want := writer(t, most), strings.Repeat("=", had)
				if e := w.Raw(want); e != api.OK {
					t.Fatal(e)
				}
				full := api.ErrTooLarge
				if had+len(x.s) <= most {
					want, full = want+x.s, api.OK
				}
				if e := x.do(w); e != full {
					t.Fatalf("most %d, had %d, % x: %v", most, had, x.s, e)
				}
				holds(t, w, want)
			}
		}
	}
}

// P2.6: what did not fit is forgotten: what fits behind it is written.
func TestP2_6Behind(t *testing.T) {
	w := writer(t, 4)
	for _, x := range []struct {
		e    api.Errno
		want api.Errno
	}{
		{w.Raw("abc"), api.OK}, {w.Raw("de"), api.ErrTooLarge}, {w.Num(300), api.ErrTooLarge}, {w.Int(300), api.ErrTooLarge},
		{w.Raw(""), api.OK}, {w.Int(-1), api.OK}, {w.Raw(""), api.OK},
		{w.Byte(0), api.ErrTooLarge}, {w.Num(0), api.ErrTooLarge}, {w.Int(0), api.ErrTooLarge}, {w.Raw("f"), api.ErrTooLarge},
	} {
		if x.e != x.want {
			t.Errorf("%v; want %v", x.e, x.want)
		}
	}
	holds(t, w, "abc\x01")
}

// P2.6: as many bytes as there may be, and one more.
func TestP2_6Greatest(t *testing.T) {
	w := writer(t, api.MaxBytes)
	long := strings.Repeat("x", api.MaxBytes)
	if e := w.Raw(long + "x"); e != api.ErrTooLarge {
		t.Error(e)
	}
	holds(t, w, "")
	if e := w.Raw(long[1:]); e != api.OK {
		t.Error(e)
	}
	if e := w.Num(128); e != api.ErrTooLarge {
		t.Error(e)
	}
	if e := w.Byte('y'); e != api.OK {
		t.Error(e)
	}
	if e := w.Byte('y'); e != api.ErrTooLarge {
		t.Error(e)
	}
	if w.Len() != api.MaxBytes || w.Text() != long[1:]+"y" {
		t.Error(w.Len())
	}
}
