package pack_test

import (
	"math"
	"runtime"
	"slices"
	"strings"
	"testing"

	"seesaw/api"
	"seesaw/frame"
	"seesaw/pack"
	"seesaw/sample"
	"seesaw/varint"
)

// P7.1: what Unwrap refuses, at its place.
func TestP7_1Unwrap(t *testing.T) {
	s := encoded(t, sample.Rich())
	long := strings.Repeat("\x01", api.MaxBytes+1)
	for _, x := range []struct {
		s  string
		at int
		e  api.Errno
	}{
		{"", 0, api.ErrShort}, {"\x80", 0, api.ErrShort}, {"\x80\x00", 0, api.ErrWide}, {strings.Repeat("\x80", 11), 0, api.ErrRange},
		{"\x81\x80\x80\x08", 0, api.ErrRange}, {varint.Put(math.MaxUint64), 0, api.ErrRange}, {"\x80\x80\x80\x08", 4, api.ErrShort},
		{long, 0, api.ErrTooLarge}, {long[1:], 6, api.ErrLong}, {s + long[len(s):], 0, api.ErrTooLarge},
		{"\x01", 1, api.ErrShort}, {"\x01\x01\x00\x00\x00", 5, api.ErrShort}, {"\x01\x01\x00\x00\x00\x00", 2, api.ErrSum}, {"\x01\x01\x00\x00\x00\x00\x00", 6, api.ErrLong},
		{"\x00\x00\x00\x00\x00", 1, api.ErrSum},
		{s[:len(s)-1], len(s) - 1, api.ErrShort}, {s + "\x00", len(s), api.ErrLong}, {s[:len(s)-1] + string([]byte{^s[len(s)-1]}), len(s) - 4, api.ErrSum},
	} {
		if _, at, e := frame.Unwrap(x.s); at != x.at || e != x.e {
			t.Fatalf("Unwrap of %s: %d, %v", shown(x.s), at, e)
		}
		refused(t, x.s, x.at, x.e)
	}
}

// P7.1: no body, and a body cut short at each of its bytes: the number that is not whole is refused, where it begins.
func TestP7_1Cut(t *testing.T) {
	wrong(t, "", 0, api.ErrShort)
	for _, x := range setups()[:60] {
		l := fields(x)
		b := l.body()
		if len(b) > 2000 {
			continue
		}
		at := 0
		for _, f := range l {
			for k := range len(f.text) {
				wrong(t, b[:at+k], at, api.ErrShort)
			}
			at += len(f.text)
		}
	}
}

// few are setups of not too many bytes, with something of all.
func few() []api.Setup {
	every := one(1, set(7, lit(300)), read(1, local(7)), write(got(0), lit(-300)), branch(add(api.Less, lit(1), local(2)), retries(2), retries(1)), loop(lit(9), retry()), orElse(retries(1), block(leave(got(0)))))
	l := []api.Setup{every, sample.Rich(), running(), running(nil)}
	for _, x := range sample.Setups()[6:36] {
		if len(fields(x).body()) < 300 {
			l = append(l, x)
		}
	}
	return l
}

// P7.1: each number of a body that may not be, just beyond and far beyond, is refused where it begins, whatever stands behind it.
func TestP7_1Range(t *testing.T) {
	for _, x := range few() {
		l := fields(x)
		for i, f := range l {
			at := l.at(i)
			if f.most == math.MaxUint64 {
				continue // a whole number may be any
			}
			for _, n := range []uint64{f.most + 1, f.most + 2, f.most + 1<<7, f.most + 1<<8, f.most + 1<<32, 1 << 63, math.MaxUint64} {
				b := l.with(i, varint.Put(n))
				wrong(t, b, at, api.ErrRange)
				wrong(t, b[:at]+varint.Put(n), at, api.ErrRange)
			}
			if f.least > 0 {
				wrong(t, l.with(i, "\x00"), at, api.ErrRange)
				wrong(t, l[:i].body()+"\x00", at, api.ErrRange)
			}
		}
	}
}

// P7.1: each number of a body that may be, the least and the greatest and those between, is not refused there: what the model tells of the rest is told.
func TestP7_1Within(t *testing.T) {
	for _, x := range few() {
		l := fields(x)
		for i, f := range l {
			for _, n := range []uint64{f.least, f.least + 1, f.least + 2, 3, 4, 5, 6, 7, 8, f.most / 2, f.most - 1, f.most} {
				if n < f.least || n > f.most {
					continue
				}
				for _, b := range []string{l.with(i, varint.Put(n)), l[:i].body() + varint.Put(n)} {
					s := framed(t, b)
					again(t, s)
					if _, place, e := pack.Decode(s); e != api.OK && place <= len(s)-4-len(b)+l.at(i) {
						t.Fatalf("Decode of %s: %d, %v: %d may be at %d", shown(s), place, e, n, l.at(i))
					}
				}
			}
		}
	}
}

// P7.1: the ends of each number by name, and what is just beyond them.
func TestP7_1Ends(t *testing.T) {
	const vars32 = "\x20" + "\x00\x00\x00\x00\x00\x00\x00\x00\x00\x00\x00\x00\x00\x00\x00\x00\x00\x00\x00\x00\x00\x00\x00\x00\x00\x00\x00\x00\x00\x00\x00\x00"
	six, seven := strings.Repeat("\x00", 6), strings.Repeat("\x00", 7)
	for _, b := range []string{
		"\x01\x00\x01\x00\x01\x00", vars32 + "\x20\x00\x01\x00", vars32 + "\x01\x00\x01\x00",
		"\x01\x00\x01\x80\x80\x80\x80\x80\x20\x01\x00", "\x01\x00\x01\x00\xe8\x07\x00",
		"\x01\x00\x01\x00\x01\x06" + six, "\x01\x00\x01\x00\x01\x01\x06" + six,
		lone(0, "\x28"+strings.Repeat("\x06", 40)), lone(0, "\x01\x01\x07\x02\x07"), lone(0, "\x01\x02\x07\x02\x07"), lone(5, "\x01\x08\x03\x04"),
	} {
		if e := again(t, framed(t, b)); e != api.OK {
			t.Fatalf("%s: %v", shown(b), e)
		}
	}
	for _, x := range []struct {
		ahead, at string
	}{
		{"", "\x00"}, {"", "\x21" + vars32}, {"\x01\x00", "\x00"}, {"\x01\x00", "\x02\x00\x01\x00"}, {vars32, "\x21\x00\x01\x00"}, {vars32, "\x00"},
		{"\x01\x00\x01", "\x81\x80\x80\x80\x80\x20\x01\x00"}, {"\x01\x00\x01\x00", "\x00\x00"}, {"\x01\x00\x01\x00", "\xe9\x07\x00"},
		{"\x01\x00\x01\x00\x01", "\x07" + seven}, {"\x01\x00\x01\x00\x01\x01", "\x07" + seven},
		{lone(0, ""), "\x29" + strings.Repeat("\x06", 41)},
		{lone(0, "\x01"), "\x00"}, {lone(0, "\x01"), "\x09"}, {lone(0, "\x01\x01"), "\x08\x01\x02"}, {lone(0, "\x01\x02"), "\x08\x01\x02"},
		{lone(0, "\x01\x08"), "\x00"}, {lone(0, "\x01\x08"), "\x09\x01\x00\x01\x00"}, {lone(0, "\x01\x08\x02"), "\x08"}, {lone(0, "\x01\x08\x03"), "\x06"},
		{lone(0, "\x01\x03\x01\x00"), "\x00"}, {lone(0, "\x01\x08\x04\x01\x00"), "\x09"}, {lone(0, "\x01\x04\x01\x00"), "\x29"}, {lone(0, "\x01\x04\x01\x00\x00"), "\x29"}, {lone(0, "\x01\x05\x01\x00"), "\x29"}, {lone(0, "\x01\x07"), "\x29"}, {lone(0, "\x01\x07\x00"), "\x29"},
	} {
		wrong(t, x.ahead+x.at, len(x.ahead), api.ErrRange)
	}
}

// P7.1: each number of a body with more bytes than it needs, or with too many, or cut.
func TestP7_1Wide(t *testing.T) {
	nine := strings.Repeat("\x80", 9)
	for _, x := range few() {
		l := fields(x)
		for i, f := range l {
			at, last := l.at(i), len(f.text)-1
			wide := f.text[:last] + string([]byte{f.text[last] | 0x80}) + "\x00"
			want := api.ErrWide
			if last == 9 {
				want = api.ErrRange // its tenth byte is above 1 now
			}
			wrong(t, l.with(i, wide), at, want)
			wrong(t, l[:i].body()+wide, at, want)
			wrong(t, l.with(i, nine+"\x00"), at, api.ErrWide)
			wrong(t, l.with(i, nine+"\x02"), at, api.ErrRange)
			wrong(t, l.with(i, nine+"\x80\x00"), at, api.ErrRange)
			wrong(t, l[:i].body()+nine, at, api.ErrShort)
			wrong(t, l[:i].body(), at, api.ErrShort)
		}
	}
}

// P7.1: bytes behind all are refused where they begin, whatever they are, and ahead of what may not be.
func TestP7_1Long(t *testing.T) {
	for _, x := range setups() {
		b := fields(x).body()
		for _, more := range []string{"\x00", "\x80", "\xff\xff", b} {
			wrong(t, b+more, len(b), api.ErrLong)
		}
	}
	for _, b := range formless() {
		wrong(t, b+"\x00", len(b), api.ErrLong)
	}
}

// formless are bodies that read well, each of a setup that may not be.
func formless() []string {
	var l []string
	for n := range api.MaxTx {
		for asked := n; asked < api.MaxTx; asked++ { // what is not returned yet
			ask := "\x03" + string([]byte{byte(asked)})
			l = append(l, lone(n, "\x01\x08"+ask), lone(n, "\x01\x08\x04\x01\x00"+ask))
		}
	}
	stmts := "\x28" + strings.Repeat("\x06", 40)
	dear := "\x01\x06"
	for range 4 {
		dear = "\x01\x05\x01\x00" + dear // 9, 73, 585, 4681
	}
	tower := "\x01\x00"
	for range 5 {
		tower = "\x04" + tower + tower // 63 expressions
	}
	return append(l,
		lone(0, "\x01\x07"+stmts+"\x00"), lone(0, "\x02\x06\x07\x00"+stmts), lone(3, "\x01\x04\x01\x00"+stmts+stmts),
		lone(0, dear), lone(1, "\x05"+strings.Repeat("\x08"+tower, 5)))
}

// P7.1: a body that reads well of a setup that may not be is refused at its end.
func TestP7_1Form(t *testing.T) {
	for _, b := range formless() {
		wrong(t, b, len(b), api.ErrForm)
	}
	// Those of the same numbers that just may be.
	for _, x := range []api.Setup{one(0, orElse(retries(api.MaxStmts-1), nil)), one(0, sample.Costing(api.MaxCost)...), full()} {
		packs(t, x, fields(x).body())
	}
}

// P7.1: of two numbers that are wrong the first one is told.
func TestP7_1First(t *testing.T) {
	bad := func(f field) []string { return []string{varint.Put(math.MaxUint64 - 1), "\x80\x00"} }
	kinds := []api.Errno{api.ErrRange, api.ErrWide}
	for _, x := range few()[:2] {
		l := fields(x)
		for i, f := range l {
			for k, text := range bad(f) {
				if k == 0 && f.most == math.MaxUint64 {
					continue
				}
				for j := i + 1; j < len(l); j++ {
					for _, other := range bad(l[j]) {
						two := slices.Clone(l)
						two[i].text, two[j].text = text, other
						wrong(t, two.body(), l.at(i), kinds[k])
						wrong(t, two[:j+1].body(), l.at(i), kinds[k])
						wrong(t, two.body()+"\x00", l.at(i), kinds[k])
					}
				}
			}
		}
	}
	// What may not be as it is asks what is not there yet: only behind all is that told.
	ahead := lone(0, "\x02\x08\x03\x00\x08")
	wrong(t, ahead+"\x03\x05", len(ahead)+2, api.ErrForm)
	wrong(t, ahead+"\x03\x06", len(ahead)+1, api.ErrRange)
	wrong(t, ahead+"\x03", len(ahead)+1, api.ErrShort)
	wrong(t, ahead+"\x03\x05\x00", len(ahead)+2, api.ErrLong)
}

// P7.1: places are those in all of the text, of however many bytes its length has.
func TestP7_1Places(t *testing.T) {
	for _, x := range []struct {
		s    api.Setup
		head int
	}{{running(), 1}, {sample.Most(), 2}, {full(), 3}} {
		b := fields(x.s).body()
		refused(t, framed(t, b+"\x00"), x.head+len(b), api.ErrLong)
		refused(t, framed(t, b[:len(b)-1]), x.head+len(fields(x.s)[:len(fields(x.s))-1].body()), api.ErrShort)
		refused(t, framed(t, "\x00"+b), x.head, api.ErrRange)
	}
}

// great is a body that reads well, of a transaction of far too many statements.
func great() string {
	const most = "\x28"
	leaf := most + strings.Repeat("\x06", 40)
	for range 3 {
		leaf = most + strings.Repeat("\x07"+leaf+"\x00", 40)
	}
	return lone(0, leaf)
}

// P7.1: great bodies are gone over, up to their ends, and what they are of is not kept.
func TestP7_1Great(t *testing.T) {
	b := great()
	var before, behind runtime.MemStats
	runtime.ReadMemStats(&before)
	wrong(t, b, len(b), api.ErrForm)
	wrong(t, b+"\x00", len(b), api.ErrLong)
	wrong(t, b[:len(b)-1], len(b)-1, api.ErrShort)
	runtime.ReadMemStats(&behind)
	if grown := behind.TotalAlloc - before.TotalAlloc; grown > uint64(20*len(b)) {
		t.Errorf("%d bytes took %d", len(b), grown)
	}
}
