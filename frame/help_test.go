package frame_test

import (
	"hash/crc32"
	"strings"
	"testing"

	"seesaw/api"
	"seesaw/frame"
	"seesaw/varint"
)

// published is the sum, by another's hand.
func published(s string) uint32 { return crc32.ChecksumIEEE([]byte(s)) }

// summed is a text, and its sum behind it, the lowest byte first.
func summed(s string) string {
	n := published(s)
	return s + string([]byte{byte(n), byte(n >> 8), byte(n >> 16), byte(n >> 24)})
}

// framed is a frame of a body, by the words of the chapter.
func framed(body string) string { return summed(varint.Put(uint64(len(body))) + body) }

// head is how many bytes a frame's length has.
func head(t testing.TB, s string) int {
	t.Helper()
	_, size, e := varint.Get(s)
	if e != api.OK {
		t.Fatalf("% x: %v", s, e)
	}
	return size
}

// wrapped is the frame of a body, which is not refused.
func wrapped(t testing.TB, body string) string {
	t.Helper()
	s, e := frame.Wrap(body)
	if e != api.OK {
		t.Fatalf("Wrap of %d bytes: %v", len(body), e)
	}
	return s
}

// opens tells that Unwrap tells just this body.
func opens(t testing.TB, s, body string) {
	t.Helper()
	if b, place, e := frame.Unwrap(s); b != body || place != 0 || e != api.OK {
		t.Fatalf("Unwrap of %s: %s, %d, %v; want %s, 0", shown(s), shown(b), place, e, shown(body))
	}
}

// refused tells that Unwrap answers just an error, and its place.
func refused(t testing.TB, s string, at int, want api.Errno) {
	t.Helper()
	if b, place, e := frame.Unwrap(s); b != "" || place != at || e != want {
		t.Fatalf("Unwrap of %s: %s, %d, %v; want none, %d, %v", shown(s), shown(b), place, e, at, want)
	}
}

// shown is a text's beginning, in hexadecimal, and how long it is if that is not all.
func shown(s string) string {
	const digits = "0123456789abcdef"
	var b strings.Builder
	for i := range min(len(s), 40) {
		b.WriteByte(digits[s[i]>>4])
		b.WriteByte(digits[s[i]&15])
	}
	if len(s) > 40 {
		b.WriteString("..")
	}
	return b.String()
}

// noise are bytes by a short rule, unlike for unlike seeds.
func noise(size int, seed uint64) string {
	b, x := make([]byte, size), seed*2+1
	for i := range b {
		x = x*6364136223846793005 + 1442695040888963407
		b[i] = byte(x >> 56)
	}
	return string(b)
}

// bodies are of all kinds; lengths of one byte, two and three.
func bodies() []string {
	l := []string{"", "\x00", "\xff", "\x80", "hello", "123456789", "\x00\x00\x00\x00", "\xff\xff\xff\xff", "\x83\xe4\xe4 \x20"}
	for _, size := range []int{2, 3, 4, 5, 8, 31, 126, 127, 128, 129, 255, 256, 300, 1<<14 - 1, 1 << 14} {
		l = append(l, noise(size, uint64(size)), strings.Repeat("\x00", size), strings.Repeat("\xff", size))
	}
	return l
}

// put is two texts, as long as one another, put together byte by byte.
func put(s, t string) string {
	b := []byte(s)
	for i := range b {
		b[i] ^= t[i]
	}
	return string(b)
}

// turned is a text with some of its bytes, from a place on, put together with others.
func turned(s string, at int, by string) string {
	return s[:at] + put(s[at:at+len(by)], by) + s[at+len(by):]
}

// turns are what up to four bytes may be put together with: each byte by itself; of two to four those of some edge bytes that begin and end by another one than 0.
func turns() []string {
	var l []string
	for b := 1; b < 256; b++ {
		l = append(l, string([]byte{byte(b)}))
	}
	edge := []byte{0, 1, 2, 0x10, 0x55, 0x7f, 0x80, 0xff}
	longer := []string{""}
	for size := 1; size <= 4; size++ {
		var next []string
		for _, s := range longer {
			for _, b := range edge {
				if b != 0 || size > 1 {
					next = append(next, s+string([]byte{b}))
				}
			}
		}
		longer = next
		for _, s := range longer {
			if size > 1 && s[size-1] != 0 {
				l = append(l, s)
			}
		}
	}
	return l
}
