package varint_test

import (
	"math"
	"math/big"
	"strings"
	"testing"

	"seesaw/api"
	"seesaw/varint"
)

// numbers are small ones, and those about each power of 2, rising.
func numbers() []uint64 {
	var l []uint64
	for n := range uint64(1000) {
		l = append(l, n)
	}
	for i := 10; i < 64; i++ {
		p := uint64(1) << i
		l = append(l, p-1, p, p+1, p+p/2+p/3)
	}
	return append(l, math.MaxUint64-1, math.MaxUint64)
}

// wholes are the same with both signs, and those farthest from 0.
func wholes() []int64 {
	var l []int64
	for _, n := range numbers() {
		if n <= math.MaxInt64 {
			l = append(l, int64(n), -int64(n))
		}
	}
	return append(l, math.MinInt64)
}

// refused tells that Get answers just an error.
func refused(t *testing.T, s string, want api.Errno) {
	t.Helper()
	if n, size, e := varint.Get(s); n != 0 || size != 0 || e != want {
		t.Errorf("Get of % x: %d, %d, %v; want 0, 0, %v", s, n, size, e, want)
	}
}

// told tells that Get answers a number, and its size.
func told(t *testing.T, s string, n uint64, size int) {
	t.Helper()
	if m, k, e := varint.Get(s); m != n || k != size || e != api.OK {
		t.Errorf("Get of % x: %d, %d, %v; want %d, %d", s, m, k, e, n, size)
	}
}

// P1.1: the bytes that the chapter names, and the edges of each size.
var texts = []struct {
	n uint64
	s string
}{
	{0, "\x00"},
	{1, "\x01"},
	{127, "\x7f"},
	{128, "\x80\x01"},
	{129, "\x81\x01"},
	{255, "\xff\x01"},
	{256, "\x80\x02"},
	{300, "\xac\x02"},
	{1<<14 - 1, "\xff\x7f"},
	{1 << 14, "\x80\x80\x01"},
	{1<<21 - 1, "\xff\xff\x7f"},
	{1 << 21, "\x80\x80\x80\x01"},
	{1<<28 - 1, "\xff\xff\xff\x7f"},
	{1 << 28, "\x80\x80\x80\x80\x01"},
	{1<<35 - 1, "\xff\xff\xff\xff\x7f"},
	{1 << 35, "\x80\x80\x80\x80\x80\x01"},
	{1<<42 - 1, "\xff\xff\xff\xff\xff\x7f"},
	{1 << 42, "\x80\x80\x80\x80\x80\x80\x01"},
	{1<<49 - 1, "\xff\xff\xff\xff\xff\xff\x7f"},
	{1 << 49, "\x80\x80\x80\x80\x80\x80\x80\x01"},
	{1<<56 - 1, "\xff\xff\xff\xff\xff\xff\xff\x7f"},
	{1 << 56, "\x80\x80\x80\x80\x80\x80\x80\x80\x01"},
	{1<<63 - 1, "\xff\xff\xff\xff\xff\xff\xff\xff\x7f"},
	{1 << 63, "\x80\x80\x80\x80\x80\x80\x80\x80\x80\x01"},
	{math.MaxUint64 - 1, "\xfe\xff\xff\xff\xff\xff\xff\xff\xff\x01"},
	{math.MaxUint64, "\xff\xff\xff\xff\xff\xff\xff\xff\xff\x01"},
}

func TestP1_1Texts(t *testing.T) {
	for _, x := range texts {
		if s := varint.Put(x.n); s != x.s {
			t.Errorf("Put of %d: % x; want % x", x.n, s, x.s)
		}
		told(t, x.s, x.n, len(x.s))
	}
}

// P1.1: the words of the chapter, done with numbers that have no width.
func TestP1_1Digits(t *testing.T) {
	for _, n := range numbers() {
		left, base := new(big.Int).SetUint64(n), big.NewInt(128)
		digit, want := new(big.Int), []byte{}
		for len(want) == 0 || left.Sign() > 0 {
			left.DivMod(left, base, digit)
			want = append(want, byte(digit.Uint64()))
			if left.Sign() > 0 {
				want[len(want)-1] += 128
			}
		}
		if s := varint.Put(n); s != string(want) {
			t.Errorf("Put of %d: % x; want % x", n, s, want)
		}
	}
}

// P1.1: each of the errors.
func TestP1_1Errors(t *testing.T) {
	for k := range 10 {
		refused(t, strings.Repeat("\x80", k), api.ErrShort)
		refused(t, strings.Repeat("\xff", k), api.ErrShort)
	}
	for k := 1; k < 10; k++ {
		refused(t, strings.Repeat("\x80", k)+"\x00", api.ErrWide)
		refused(t, strings.Repeat("\xff", k)+"\x00", api.ErrWide)
	}
	for b := 2; b < 256; b++ {
		refused(t, strings.Repeat("\x80", 9)+string([]byte{byte(b)}), api.ErrRange)
		refused(t, strings.Repeat("\xff", 9)+string([]byte{byte(b)}), api.ErrRange)
	}
	refused(t, strings.Repeat("\x80", 11), api.ErrRange)
	refused(t, strings.Repeat("\xff", 1000), api.ErrRange)
}

// P1.1: which error is met first; what stands behind it is not looked at.
func TestP1_1First(t *testing.T) {
	nine := strings.Repeat("\x80", 9)
	refused(t, "\x80\x00\x80", api.ErrWide)
	refused(t, "\x80\x00"+nine+"\x02", api.ErrWide)
	refused(t, nine+"\x00\x02", api.ErrWide)
	refused(t, nine+"\x80", api.ErrRange)
	refused(t, nine+"\x80\x00", api.ErrRange)
	refused(t, nine+"\x81\x00", api.ErrRange)
	refused(t, nine+"\x02\x00", api.ErrRange)
	told(t, nine+"\x01\x80", 1<<63, 10)
	told(t, "\x00\x00", 0, 1)
	told(t, "\x00\x80", 0, 1)
	told(t, "\x7f"+nine+"\x02", 127, 1)
	told(t, "\x80\x01\x00", 128, 2)
}

// P1.2: what the chapter names, and the numbers farthest from 0.
func TestP1_2(t *testing.T) {
	for _, y := range []struct {
		x int64
		n uint64
	}{
		{0, 0}, {-1, 1}, {1, 2}, {-2, 3}, {2, 4}, {-3, 5}, {63, 126}, {-64, 127}, {64, 128}, {-65, 129},
		{math.MaxInt32, math.MaxUint32 - 1}, {math.MinInt32, math.MaxUint32},
		{math.MaxInt64 - 1, math.MaxUint64 - 3}, {math.MinInt64 + 1, math.MaxUint64 - 2},
		{math.MaxInt64, math.MaxUint64 - 1}, {math.MinInt64, math.MaxUint64},
	} {
		if n := varint.Zig(y.x); n != y.n {
			t.Errorf("Zig of %d: %d; want %d", y.x, n, y.n)
		}
		if x := varint.Zag(y.n); x != y.x {
			t.Errorf("Zag of %d: %d; want %d", y.n, x, y.x)
		}
	}
}

// P1.3: back, with whatever behind.
func TestP1_3Numbers(t *testing.T) {
	for _, n := range numbers() {
		s := varint.Put(n)
		for _, behind := range []string{"", "\x00", "\x01", "\x7f", "\x80", "\xff", s, strings.Repeat("\xff", 20)} {
			told(t, s+behind, n, len(s))
		}
	}
}

// P1.3: whatever bytes come, what is told are the bytes that were gone over.
func TestP1_3Texts(t *testing.T) {
	edge := []byte{0x00, 0x01, 0x02, 0x7f, 0x80, 0x81, 0xff}
	for a := range 256 {
		for b := range 256 {
			for _, c := range edge {
				again(t, string([]byte{byte(a), byte(b), c}))
			}
		}
	}
	for k := range 12 {
		for _, fill := range []string{"\x80", "\xff"} {
			for b := range 256 {
				again(t, strings.Repeat(fill, k)+string([]byte{byte(b)}))
			}
		}
	}
}

// again tells that what Get told, put anew, stands at the beginning, and else is refused by an error that it may have.
func again(t *testing.T, s string) {
	t.Helper()
	n, size, e := varint.Get(s)
	switch e {
	case api.OK:
		if size < 1 || size > 10 || size > len(s) || varint.Put(n) != s[:size] {
			t.Errorf("Put of Get of % x: %d, %d: % x", s, n, size, varint.Put(n))
		}
	case api.ErrShort, api.ErrRange, api.ErrWide:
		if n != 0 || size != 0 {
			t.Errorf("Get of % x: %v, and %d, %d besides", s, e, n, size)
		}
	default:
		t.Errorf("Get of % x: %v", s, e)
	}
}

// P1.4: unlike bytes, none of which begins by those of another one; sizes rise.
func TestP1_4(t *testing.T) {
	l := numbers()
	put := map[string]uint64{}
	for i, n := range l {
		s := varint.Put(n)
		if len(s) < 1 || len(s) > 10 {
			t.Errorf("Put of %d: %d bytes", n, len(s))
		}
		if m, ok := put[s]; ok {
			t.Errorf("Put of %d and of %d: % x", m, n, s)
		}
		put[s] = n
		if i > 0 && len(s) < len(varint.Put(l[i-1])) {
			t.Errorf("Put of %d has fewer bytes than that of %d", n, l[i-1])
		}
	}
	for s, n := range put {
		for k := range len(s) {
			if m, ok := put[s[:k]]; ok {
				t.Errorf("Put of %d begins by Put of %d", n, m)
			}
		}
	}
}

// P1.5: what a number's bytes begin by is none.
func TestP1_5(t *testing.T) {
	for _, n := range numbers() {
		s := varint.Put(n)
		for k := range len(s) {
			refused(t, s[:k], api.ErrShort)
		}
	}
}

// P1.6: there and back.
func TestP1_6Back(t *testing.T) {
	for _, x := range wholes() {
		if y := varint.Zag(varint.Zig(x)); y != x {
			t.Errorf("Zag of Zig of %d: %d", x, y)
		}
	}
	for _, n := range numbers() {
		if m := varint.Zig(varint.Zag(n)); m != n {
			t.Errorf("Zig of Zag of %d: %d", n, m)
		}
	}
}

// P1.6: of one sign, the farther from 0 the greater.
func TestP1_6Farther(t *testing.T) {
	l := numbers()
	for i := 1; i < len(l) && l[i] <= math.MaxInt64; i++ {
		near, far := int64(l[i-1]), int64(l[i])
		if varint.Zig(near) >= varint.Zig(far) {
			t.Errorf("Zig of %d and %d", near, far)
		}
		if near > 0 && varint.Zig(-near) >= varint.Zig(-far) {
			t.Errorf("Zig of %d and %d", -near, -far)
		}
	}
	if varint.Zig(math.MinInt64+1) >= varint.Zig(math.MinInt64) {
		t.Error("Zig of the least whole numbers")
	}
}

// R1: whatever bytes fuzzing comes to, Get ends, and what it tells is as above.
func FuzzGet(f *testing.F) {
	for _, x := range texts {
		f.Add(x.s)
	}
	f.Fuzz(func(t *testing.T, s string) { again(t, s) })
}
