package frame_test

import (
	"strings"
	"testing"
	"unsafe"

	"seesaw/api"
	"seesaw/frame"
	"seesaw/varint"
)

// within tells whether a text's bytes are some of another one's own.
func within(s, all string) bool {
	at, from := uintptr(unsafe.Pointer(unsafe.StringData(s))), uintptr(unsafe.Pointer(unsafe.StringData(all)))
	return at >= from && at < from+uintptr(len(all))
}

// again tells what Unwrap must answer of whatever bytes come, by the chapter's words in the order of its table; and that what it told, wrapped anew, are the bytes.
func again(t testing.TB, s string) {
	t.Helper()
	n, size, e := varint.Get(s)
	at := size + int(min(n, 2*api.MaxBytes))
	switch {
	case len(s) > api.MaxBytes:
		refused(t, s, 0, api.ErrTooLarge)
	case e != api.OK:
		refused(t, s, 0, e)
	case n > api.MaxBytes:
		refused(t, s, 0, api.ErrRange)
	case len(s) < at+4:
		refused(t, s, len(s), api.ErrShort)
	case len(s) > at+4:
		refused(t, s, at+4, api.ErrLong)
	case s != summed(s[:at]):
		refused(t, s, at, api.ErrSum)
	default:
		opens(t, s, s[size:at])
		if w := wrapped(t, s[size:at]); w != s {
			t.Fatalf("Wrap of %s: %s; want %s", shown(s[size:at]), shown(w), shown(s))
		}
	}
}

// P3.2: back.
func TestP3_2Back(t *testing.T) {
	for size := range 700 {
		body := noise(size, uint64(size)+1)
		opens(t, wrapped(t, body), body)
	}
	body := ""
	for range 20 {
		s := wrapped(t, body)
		opens(t, s, body)
		body = s
	}
}

// P3.2: whatever bytes come, with a sum that is right and as they are: what is told, wrapped anew, are the bytes.
func TestP3_2Bytes(t *testing.T) {
	for a := range 256 {
		for b := range 256 {
			s := string([]byte{byte(a), byte(b)})
			again(t, s)
			again(t, summed(s))
			again(t, summed(s+"\x00"))
		}
	}
	for length := range 300 {
		for _, size := range []int{length - 1, length, length + 1} {
			s := varint.Put(uint64(length)) + noise(max(size, 0), 3)
			again(t, s)
			again(t, summed(s))
		}
	}
}

// P3.3: whichever of up to four bytes, one behind the other, are other ones.
func TestP3_3Bursts(t *testing.T) {
	all := turns()
	for _, body := range []string{"", "a", "hello", "\x00\x00\x00\x00\x00\x00", noise(130, 5)} {
		s := wrapped(t, body)
		for at := head(t, s); at < len(s); at++ {
			for _, by := range all {
				if at+len(by) <= len(s) {
					refused(t, turned(s, at, by), len(s)-4, api.ErrSum)
				}
			}
		}
	}
}

// P3.3: each two bytes, one behind the other, being any others.
func TestP3_3Two(t *testing.T) {
	s := wrapped(t, "ab")
	for at := 1; at+2 <= len(s); at++ {
		for a := range 256 {
			for b := range 256 {
				if by := string([]byte{byte(a), byte(b)}); by != "\x00\x00" {
					refused(t, turned(s, at, by), len(s)-4, api.ErrSum)
				}
			}
		}
	}
}

// P3.3: each bit of long frames, by itself.
func TestP3_3Bits(t *testing.T) {
	for _, body := range []string{noise(2000, 9), strings.Repeat("\x00", 300)} {
		s := wrapped(t, body)
		for at := head(t, s); at < len(s); at++ {
			for bit := range 8 {
				refused(t, turned(s, at, string([]byte{1 << bit})), len(s)-4, api.ErrSum)
			}
		}
	}
}

// P3.4: texts that are unlike within four bytes, whichever.
func TestP3_4Turns(t *testing.T) {
	all := turns()
	for _, s := range []string{"abcd", "\x00\x00\x00\x00", "\xff\xff\xff\xff", "hello, hello", noise(100, 11)} {
		for at := range len(s) {
			seen := map[uint32]string{frame.Sum(s): ""}
			for _, by := range all {
				if at+len(by) > len(s) {
					continue
				}
				sum := frame.Sum(turned(s, at, by))
				if other, ok := seen[sum]; ok {
					t.Fatalf("Sum of %s, at %d by % x and by % x: %08x", shown(s), at, other, by, sum)
				}
				seen[sum] = by
			}
		}
	}
}

// P3.4: the 32 bits that four bytes have turn the sum each by itself in another way, none of which others of them come to: so no two choices of them come to the same (by P3.6).
func TestP3_4Bits(t *testing.T) {
	for _, s := range []string{"abcd", "\x00\x00\x00\x00", noise(40, 13), strings.Repeat("\xff", 300)} {
		for at := 0; at+4 <= len(s); at++ {
			var top [32]uint32 // by its highest bit, what has it
			for bit := range 32 {
				by := [4]byte{}
				by[bit/8] = 1 << (bit % 8)
				sum := frame.Sum(turned(s, at, string(by[:]))) ^ frame.Sum(s)
				for high := 31; high >= 0 && sum != 0; high-- {
					if sum>>high&1 == 0 {
						continue
					}
					if top[high] == 0 {
						top[high] = sum
						break
					}
					sum ^= top[high]
				}
				if sum == 0 {
					t.Fatalf("bits of %s, at %d, up to %d", shown(s), at, bit)
				}
			}
		}
	}
}

// P3.5: cut at each place, by one byte and by more.
func TestP3_5Cut(t *testing.T) {
	for _, body := range bodies() {
		s := wrapped(t, body)
		for k := range len(s) {
			place := k
			if k < head(t, s) {
				place = 0 // its length is cut, which begins there
			}
			refused(t, s[:k], place, api.ErrShort)
		}
	}
}

// P3.5: a byte more, whichever, and more of them.
func TestP3_5More(t *testing.T) {
	for _, body := range bodies() {
		s := wrapped(t, body)
		for b := range 256 {
			refused(t, s+string([]byte{byte(b)}), len(s), api.ErrLong)
		}
		refused(t, s+s, len(s), api.ErrLong)
		refused(t, s+s[len(s)-4:], len(s), api.ErrLong)
	}
}

// P3.6: of three texts, put together byte by byte.
func TestP3_6(t *testing.T) {
	for _, size := range []int{0, 1, 2, 3, 4, 5, 7, 8, 9, 63, 64, 65, 255, 256, 1000} {
		texts := []string{strings.Repeat("\x00", size), strings.Repeat("\xff", size), strings.Repeat("\x80", size), noise(size, 1), noise(size, 2), noise(size, 3)}
		for _, a := range texts {
			for _, b := range texts {
				for _, c := range texts {
					want := frame.Sum(a) ^ frame.Sum(b) ^ frame.Sum(c)
					if sum := frame.Sum(put(put(a, b), c)); sum != want {
						t.Fatalf("Sum of %s, %s and %s: %08x; want %08x", shown(a), shown(b), shown(c), sum, want)
					}
				}
			}
		}
	}
}

// P3.6: each three bytes of a few, with whatever ahead and behind.
func TestP3_6Bytes(t *testing.T) {
	for a := range 256 {
		for b := range 256 {
			c := byte(a*b + 1)
			x, y, z := string([]byte{'x', byte(a), 0}), string([]byte{0, byte(b), 'y'}), string([]byte{'z', c, 'z'})
			if frame.Sum(put(put(x, y), z)) != frame.Sum(x)^frame.Sum(y)^frame.Sum(z) {
				t.Fatalf("Sum of % x, % x and % x", x, y, z)
			}
		}
	}
}

// R1: whatever bytes fuzzing comes to, as they are and with a sum that is right.
func FuzzUnwrap(f *testing.F) {
	for _, body := range []string{"", "a", "hello", noise(128, 17)} {
		f.Add(framed(body))
		f.Add(framed(body)[:len(body)+1])
	}
	f.Add("\x80\x00")
	f.Add("\x81\x80\x80\x08a")
	f.Fuzz(func(t *testing.T, s string) {
		again(t, s)
		again(t, summed(s))
		again(t, framed(s))
	})
}
