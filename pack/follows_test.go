package pack_test

import (
	"strings"
	"testing"

	"seesaw/api"
	"seesaw/pack"
	"seesaw/sample"
	"seesaw/setup"
)

// P7.2: Decode of Encode is the setup, and Encode of that the bytes; unlike setups have unlike bytes, and the same one has the same.
func TestP7_2(t *testing.T) {
	l := setups()
	for next := noise(72); len(l) < 500; {
		l = append(l, sample.Setup(next))
	}
	texts := map[string]api.Setup{}
	for _, x := range l {
		s := encoded(t, x)
		if other, ok := texts[s]; ok && !setup.Same(other, x) {
			t.Fatalf("Encode of %v and %v: %s", x, other, shown(s))
		}
		texts[s] = x
		y, place, e := pack.Decode(s)
		if !setup.Same(x, y) || place != 0 || e != api.OK {
			t.Fatalf("Decode of Encode of %v: %v, %d, %v", x, y, place, e)
		}
		for _, same := range []api.Setup{y, setup.Copy(x), emptied(x)} {
			if back := encoded(t, same); back != s {
				t.Fatalf("Encode of %v: %s; want %s", same, shown(back), shown(s))
			}
		}
	}
	if len(texts) < 400 {
		t.Fatal("too few", len(texts))
	}
}

// emptied is the same setup, with lists of nothing where there are none.
func emptied(x api.Setup) api.Setup {
	x = setup.Copy(x)
	if x.Threads == nil {
		x.Threads = []thread{}
	}
	for i, one := range x.Threads {
		if one == nil {
			x.Threads[i] = thread{}
		}
		for n, l := range one {
			one[n] = emptiedIn(l)
		}
	}
	return x
}

// emptiedIn is such a block.
func emptiedIn(l tx) tx {
	if l == nil {
		return tx{}
	}
	for i := range l {
		l[i].A.Args, l[i].B.Args = append([]api.Expr{}, l[i].A.Args...), append([]api.Expr{}, l[i].B.Args...)
		l[i].Body, l[i].Else = emptiedIn(l[i].Body), emptiedIn(l[i].Else)
	}
	return l
}

// P7.3: all short bodies of edge bytes, behind what may stand ahead of them, in a frame and as they are.
func TestP7_3Short(t *testing.T) {
	edges := []string{"\x00", "\x01", "\x02", "\x06", "\x07", "\x08", "\x80", "\xff"}
	ok := 0
	for _, ahead := range []string{"", "\x01\x00\x01\x00\x01\x01", lone(0, ""), lone(1, "\x02\x06"), lone(0, "\x01\x08\x04")} {
		for many := range 6 {
			for i, w := range ways(many, len(edges)) {
				if many == 5 && i%5 != 0 {
					continue
				}
				var b strings.Builder
				b.WriteString(ahead)
				for _, at := range w {
					b.WriteString(edges[at])
				}
				again(t, b.String())
				if again(t, framed(t, b.String())) == api.OK {
					ok++
				}
			}
		}
	}
	if ok < 50 {
		t.Fatal("too few", ok)
	}
}

// P7.3: bodies with bytes that are other ones, or gone, or more, in a frame whose sum is right.
func TestP7_3Turned(t *testing.T) {
	kinds := map[api.Errno]int{}
	next := noise(73)
	for _, x := range setups() {
		b := fields(x).body()
		for range 30 {
			at := next(len(b))
			c := string([]byte{byte(next(256))})
			if next(2) == 0 {
				c = string([]byte{byte(next(10))})
			}
			for _, turned := range []string{b[:at] + c + b[at+1:], b[:at] + b[at+1:], b[:at] + c + b[at:]} {
				if len(b) < 3000 || next(30) == 0 {
					kinds[again(t, framed(t, turned))]++
				}
			}
		}
	}
	for _, e := range []api.Errno{api.OK, api.ErrForm, api.ErrShort, api.ErrLong, api.ErrRange} {
		if kinds[e] < 50 {
			t.Errorf("%v: %d times", e, kinds[e])
		}
	}
}

// P7.3: any bytes, as they are and in a frame: of edge bytes, and of all.
func TestP7_3Any(t *testing.T) {
	next := noise(75)
	for range 20000 {
		b := make([]byte, next(60))
		for i := range b {
			b[i] = byte(next([]int{10, 10, 256}[next(3)]))
		}
		again(t, string(b))
		again(t, framed(t, string(b)))
		again(t, framed(t, lone(next(3), string(b))))
	}
}

// bent is a text with up to four bytes, from a place on, put together with others.
func bent(s string, at int, by uint32) string {
	b := []byte(s)
	for i := range min(4, len(b)-at) {
		b[at+i] ^= byte(by >> (8 * i))
	}
	return string(b)
}

// P7.4: whichever bytes within four are other ones, behind the length: ErrSum, at the sum.
func TestP7_4(t *testing.T) {
	turns := []uint32{1, 0x80, 0xff, 0x0101, 0x8000, 0x80ff00, 0x01000001, 0xffffffff, 0x80000000, 0x00010000}
	next := noise(74)
	for range 20 {
		turns = append(turns, uint32(next(1<<31))<<1|1)
	}
	for _, x := range setups()[:40] {
		s := encoded(t, x)
		head := len(s) - 4 - len(fields(x).body())
		for at := head; at < len(s); at++ {
			for _, by := range turns {
				if u := bent(s, at, by); u != s {
					refused(t, u, len(s)-4, api.ErrSum)
				}
			}
		}
	}
}

// P7.4: each bit by itself, and each byte as any other one.
func TestP7_4Bytes(t *testing.T) {
	s := encoded(t, sample.Rich())
	for at := 1; at < len(s); at++ {
		for by := uint32(1); by < 256; by++ {
			refused(t, s[:at]+string([]byte{s[at] ^ byte(by)})+s[at+1:], len(s)-4, api.ErrSum)
		}
	}
	s = encoded(t, full())
	for at := 3; at < len(s); at += 997 {
		for bit := range 8 {
			refused(t, bent(s[:at+1], at, 1<<bit)+s[at+1:], len(s)-4, api.ErrSum)
		}
	}
}

// P7.5: what a setup's bytes begin by is refused.
func TestP7_5Begun(t *testing.T) {
	for _, x := range setups()[:120] {
		s := encoded(t, x)
		head := len(s) - 4 - len(fields(x).body())
		for k := range len(s) {
			at := k
			if k < head {
				at = 0 // its length is cut, which begins there
			}
			refused(t, s[:k], at, api.ErrShort)
		}
	}
}

// P7.5: what they are with more behind them is refused, whatever that is.
func TestP7_5More(t *testing.T) {
	for _, x := range setups() {
		s := encoded(t, x)
		for _, more := range []string{"\x00", "\x80", s[:1], s[len(s)-4:], s} {
			refused(t, s+more, len(s), api.ErrLong)
		}
	}
	s := encoded(t, running())
	for b := range 256 {
		refused(t, s+string([]byte{byte(b)}), len(s), api.ErrLong)
	}
}

// R1: whatever bytes fuzzing comes to, as they are and as a body; and of whatever setups just those that may be have bytes.
func FuzzPack(f *testing.F) {
	for _, x := range []api.Setup{running(), sample.Rich(), one(2, leave(add(api.Less, got(1), local(3)))), one(0, orElse(block(loop(lit(2), retry())), nil))} {
		b := fields(x).body()
		f.Add(b)
		f.Add(b[:len(b)-1])
		f.Add(framed(f, b))
	}
	for _, b := range formless() {
		f.Add(b)
	}
	f.Fuzz(func(t *testing.T, s string) {
		again(t, s)
		if len(s) < api.MaxBytes-10 {
			again(t, framed(t, s))
		}
		x := sample.Wild(sample.Bytes(s))
		if setup.Check(x) != api.OK {
			form(t, x)
			return
		}
		packs(t, x, fields(x).body())
	})
}
