package frame_test

import (
	"math"
	"strings"
	"testing"

	"seesaw/api"
	"seesaw/frame"
	"seesaw/varint"
)

// P3.1: sums that are published.
func TestP3_1Published(t *testing.T) {
	for _, x := range []struct {
		s   string
		sum uint32
	}{
		{"", 0},
		{"123456789", 0xcbf43926},
		{"\x00", 0xd202ef8d},
		{"\xff", 0xff000000},
		{"\x00\x00\x00\x00", 0x2144df1c},
		{"\xff\xff\xff\xff", 0xffffffff},
		{"a", 0xe8b7be43},
		{"abc", 0x352441c2},
		{"message digest", 0x20159d7f},
		{"abcdefghijklmnopqrstuvwxyz", 0x4c2750bd},
		{"ABCDEFGHIJKLMNOPQRSTUVWXYZabcdefghijklmnopqrstuvwxyz0123456789", 0x1fc2e6d2},
		{"The quick brown fox jumps over the lazy dog", 0x414fa339},
	} {
		if sum := frame.Sum(x.s); sum != x.sum {
			t.Errorf("Sum of % x: %08x; want %08x", x.s, sum, x.sum)
		}
	}
}

// P3.1: the sum of each byte, each two of them, and longer texts.
func TestP3_1Sum(t *testing.T) {
	sums := func(s string) {
		t.Helper()
		if sum := frame.Sum(s); sum != published(s) {
			t.Fatalf("Sum of %s: %08x; want %08x", shown(s), sum, published(s))
		}
	}
	for a := range 256 {
		sums(string([]byte{byte(a)}))
		for b := range 256 {
			sums(string([]byte{byte(a), byte(b)}))
		}
	}
	for _, s := range bodies() {
		sums(s)
		sums(framed(s))
	}
	for size := range 600 {
		sums(noise(size, uint64(size)))
	}
}

// P3.1: the chapter's example, and others written out.
func TestP3_1Wrap(t *testing.T) {
	for _, x := range []struct{ body, want string }{
		{"", "\x00\x8d\xef\x02\xd2"},
		{"\x00", "\x01\x00\xbe\x23\xc2\x58"},
		{"hello", "\x05hello" + "\x8b\x61\x3d\x11"},
		{"123456789", "\x09123456789" + "\x34\x6e\x62\x32"},
	} {
		if s := wrapped(t, x.body); s != x.want {
			t.Errorf("Wrap of % x: % x; want % x", x.body, s, x.want)
		}
		opens(t, x.want, x.body)
	}
}

// P3.1: frames are what the words of the chapter say, there and back.
func TestP3_1Frames(t *testing.T) {
	for _, body := range bodies() {
		if s := wrapped(t, body); s != framed(body) {
			t.Fatalf("Wrap of %s: %s; want %s", shown(body), shown(s), shown(framed(body)))
		}
		opens(t, framed(body), body)
	}
}

// P3.1: the frame that just has MaxBytes bytes, and one byte more.
func TestP3_1TooLarge(t *testing.T) {
	body := strings.Repeat("seesaw", api.MaxBytes/6+2)
	most := api.MaxBytes - 4 - 4
	s := wrapped(t, body[:most])
	if len(s) != api.MaxBytes || s != framed(body[:most]) {
		t.Errorf("Wrap of %d bytes: %d", most, len(s))
	}
	opens(t, s, body[:most])
	for _, size := range []int{most + 1, most + 2, api.MaxBytes - 4, api.MaxBytes, api.MaxBytes + 1} {
		if s, e := frame.Wrap(body[:size]); s != "" || e != api.ErrTooLarge {
			t.Errorf("Wrap of %d bytes: %d bytes, %v", size, len(s), e)
		}
		refused(t, framed(body[:size]), 0, api.ErrTooLarge)
	}
}

// P3.1: more than MaxBytes bytes are that, whatever else is wrong with them.
func TestP3_1TooLargeFirst(t *testing.T) {
	long := strings.Repeat("\x00", api.MaxBytes+1)
	for _, begin := range []string{"", "\x80\x00", strings.Repeat("\xff", 11), varint.Put(api.MaxBytes + 1), varint.Put(api.MaxBytes), varint.Put(5)} {
		refused(t, (begin + long)[:len(long)], 0, api.ErrTooLarge)
	}
	refused(t, strings.Repeat("\x80", len(long)), 0, api.ErrTooLarge)
	refused(t, long[1:], 5, api.ErrLong)
	refused(t, strings.Repeat("\x80", api.MaxBytes), 0, api.ErrRange)
}

// P3.1: what varint.Get answers, of a length that is none, with whatever behind it.
func TestP3_1Length(t *testing.T) {
	for k := range 10 {
		refused(t, strings.Repeat("\x80", k), 0, api.ErrShort)
		refused(t, strings.Repeat("\xff", k), 0, api.ErrShort)
	}
	for _, behind := range []string{"", "\x00", "\xff", "\x00\x8d\xef\x02\xd2", strings.Repeat("a", 1000)} {
		for k := 1; k < 10; k++ {
			refused(t, strings.Repeat("\x80", k)+"\x00"+behind, 0, api.ErrWide)
		}
		for _, last := range []string{"\x02", "\x7f", "\x80", "\xff"} {
			refused(t, strings.Repeat("\x80", 9)+last+behind, 0, api.ErrRange)
			refused(t, strings.Repeat("\xff", 9)+last+behind, 0, api.ErrRange)
		}
	}
}

// P3.1: a length with more bytes than it needs is refused, though all else, and the sum, is right.
func TestP3_1Wide(t *testing.T) {
	refused(t, summed("\x80\x00"), 0, api.ErrWide)
	refused(t, summed("\x85\x00hello"), 0, api.ErrWide)
	refused(t, summed("\x85\x80\x00hello"), 0, api.ErrWide)
	refused(t, summed("\x80\x81\x00"+noise(128, 1)), 0, api.ErrWide)
}

// P3.1: a length above MaxBytes, and MaxBytes itself, of which the body is missing.
func TestP3_1Range(t *testing.T) {
	for _, behind := range []string{"", "a", "\x00\x00\x00\x00", strings.Repeat("\xff", 1000)} {
		for _, n := range []uint64{api.MaxBytes + 1, api.MaxBytes + 2, 2 * api.MaxBytes, math.MaxInt32, math.MaxUint32, 1 << 32, math.MaxInt64 - 8, math.MaxInt64, 1 << 63, math.MaxUint64 - 4, math.MaxUint64} {
			refused(t, varint.Put(n)+behind, 0, api.ErrRange)
			refused(t, summed(varint.Put(n)+behind), 0, api.ErrRange)
		}
		for _, n := range []uint64{api.MaxBytes, api.MaxBytes - 1, api.MaxBytes - 4, api.MaxBytes - 7} {
			s := varint.Put(n) + behind
			refused(t, s, len(s), api.ErrShort)
			s = summed(s)
			refused(t, s, len(s), api.ErrShort)
		}
	}
	long := varint.Put(api.MaxBytes) + strings.Repeat("a", api.MaxBytes)
	refused(t, long[:api.MaxBytes], api.MaxBytes, api.ErrShort)
	long = varint.Put(api.MaxBytes+1) + strings.Repeat("a", api.MaxBytes)
	refused(t, long[:api.MaxBytes], 0, api.ErrRange)
}

// P3.1: a wrong sum is told where the sum stands, whichever sum it is.
func TestP3_1Sums(t *testing.T) {
	for _, body := range bodies() {
		s := framed(body)
		at := len(s) - 4
		sum := s[at:]
		for _, other := range []string{
			put(sum, "\xff\xff\xff\xff"),
			put(sum, "\x01\x00\x00\x00"),
			put(sum, "\x00\x00\x00\x80"),
			string([]byte{sum[3], sum[2], sum[1], sum[0]}),
			summed(body)[len(body):],
			"\x00\x00\x00\x00",
			"\xff\xff\xff\xff",
		} {
			if other != sum {
				refused(t, s[:at]+other, at, api.ErrSum)
			}
		}
	}
}

// P3.1: what is missing, or is there besides, is told ahead of a sum that is wrong.
func TestP3_1Order(t *testing.T) {
	for _, body := range bodies() {
		s := framed(body)
		bent := turned(s, len(s)-4, "\x01")
		refused(t, bent, len(s)-4, api.ErrSum)
		refused(t, bent[:len(s)-1], len(s)-1, api.ErrShort)
		refused(t, bent+"\x00", len(s), api.ErrLong)
	}
	refused(t, "\x05hello"+"\x00\x00\x00\x00"+strings.Repeat("x", 1000), 10, api.ErrLong)
	refused(t, framed("")+framed(""), 5, api.ErrLong)
}

// R1: what is told shares no memory with what was handed in; a frame of it still stands.
func TestR1Kept(t *testing.T) {
	body := noise(1000, 7)
	s := wrapped(t, body)
	u, _, _ := frame.Unwrap(s)
	if within(u, s) || within(u, body) || within(s, body) {
		t.Error("memory that is shared")
	}
	opens(t, s, body)
}
