package delta_test

import (
	"fmt"
	"math"
	"slices"
	"strings"
	"testing"

	"seesaw/api"
	"seesaw/bytes"
	"seesaw/delta"
)

// P14.1: the chapter's examples.
func TestP14_1Examples(t *testing.T) {
	b := made(t, sized(2, 3, 2))
	b.writes(t, said(t, "1 begin 0 5"), bits(t, "01 00 05"))
	b.writes(t, said(t, "1 look 1 3"), bits(t, "02 01 02"))
	b.writes(t, said(t, "1 load 1 -4"), bits(t, "04 01 07"))
}

// P14.1: New over each number of threads, variables and stripes: those that events may be over are a coder that knows nothing, the others are none.
func TestP14_1New(t *testing.T) {
	far := []int{math.MinInt, math.MinInt + 1, -1 << 32, -33, -2, -1, 0, 1, 2, 3, 5, 6, 7, 8, 31, 32, 33, 64, 256, 1 << 32, math.MaxInt - 1, math.MaxInt}
	for _, threads := range far {
		for _, vars := range far {
			for _, stripes := range append(slices.Clip(far), vars-1, vars, vars+1) {
				if 1 <= threads && threads <= 6 && 1 <= vars && vars <= 32 && 1 <= stripes && stripes <= vars {
					made(t, sized(threads, vars, stripes)).keeps(t)
				} else if c, e := delta.New(threads, vars, stripes); c != nil || e != api.ErrArg {
					t.Fatalf("New of %d, %d, %d: %v, %v", threads, vars, stripes, c, e)
				}
			}
		}
	}
}

// P14.1: what New takes and refuses at the ends, one by one.
func TestP14_1NewEnds(t *testing.T) {
	for _, c := range []struct {
		threads, vars, stripes int
		want                   api.Errno
	}{
		{-1, 1, 1, api.ErrArg}, {0, 1, 1, api.ErrArg}, {1, 1, 1, api.OK}, {api.MaxThreads, 1, 1, api.OK}, {api.MaxThreads + 1, 1, 1, api.ErrArg},
		{1, -1, 1, api.ErrArg}, {1, 0, 1, api.ErrArg}, {1, 0, 0, api.ErrArg}, {1, api.MaxVars, 1, api.OK}, {1, api.MaxVars + 1, 1, api.ErrArg},
		{1, 5, -1, api.ErrArg}, {1, 5, 0, api.ErrArg}, {1, 5, 4, api.OK}, {1, 5, 5, api.OK}, {1, 5, 6, api.ErrArg},
		{6, api.MaxVars, api.MaxVars, api.OK}, {6, api.MaxVars, api.MaxVars + 1, api.ErrArg}, {6, api.MaxVars + 1, api.MaxVars + 1, api.ErrArg},
		{math.MinInt, 5, 5, api.ErrArg}, {math.MaxInt, 5, 5, api.ErrArg}, {5, math.MinInt, 1, api.ErrArg}, {5, math.MaxInt, 1, api.ErrArg}, {5, 5, math.MinInt, api.ErrArg}, {5, 5, math.MaxInt, api.ErrArg}, {0, 0, 0, api.ErrArg},
	} {
		k, e := delta.New(c.threads, c.vars, c.stripes)
		if e != c.want || (k != nil) != (e == api.OK) {
			t.Fatalf("New of %+v: %v, %v", c, k, e)
		}
	}
}

// least are events of each Kind as a coder may be told them at first, of thread 0, and their bytes behind the first number.
func least() (texts, rest []string) {
	for _, c := range strings.Split("begin 0 0:00 00; look 0 0:00 00; load 0 0:00 00; lock 0:00; bump 1:01; check 0:00; commit 0:00; store 0 0:00 00; free 0:00; abort 1 0:00 00; undo 0:00; wait:; wake:", "; ") {
		text, bits, _ := strings.Cut(c, ":")
		texts, rest = append(texts, text), append(rest, bits)
	}
	return texts, rest
}

// P14.1: the bytes of each Kind, from each last thread to each other one, and to the same, of each number of threads.
func TestP14_1First(t *testing.T) {
	texts, rest := least()
	for threads := 1; threads <= 6; threads++ {
		for last := range threads {
			for more := range threads {
				for kind, text := range texts {
					b := behind(t, sized(threads, 2, 2), fmt.Sprint(last, " wait"))
					thread := (last + more) % threads
					first := fmt.Sprintf("%02x ", kind*threads+more)
					b.writes(t, said(t, fmt.Sprint(thread, " ", text)), bits(t, first+rest[kind]))
				}
			}
		}
	}
}

// P14.1: first numbers by hand: of each Kind the threads 0, 1 and 2, behind an event of 0, of 1, and of 2.
func TestP14_1FirstByHand(t *testing.T) {
	texts, rest := least()
	for last, firsts := range []string{
		"00 01 02 03 04 05 06 07 08 09 0a 0b 0c 0d 0e 0f 10 11 12 13 14 15 16 17 18 19 1a 1b 1c 1d 1e 1f 20 21 22 23 24 25 26",
		"02 00 01 05 03 04 08 06 07 0b 09 0a 0e 0c 0d 11 0f 10 14 12 13 17 15 16 1a 18 19 1d 1b 1c 20 1e 1f 23 21 22 26 24 25",
		"01 02 00 04 05 03 07 08 06 0a 0b 09 0d 0e 0c 10 11 0f 13 14 12 16 17 15 19 1a 18 1c 1d 1b 1f 20 1e 22 23 21 25 26 24",
	} {
		for n, first := range strings.Fields(firsts) {
			b := behind(t, sized(3, 1, 1), fmt.Sprint(last, " wake"))
			b.writes(t, said(t, fmt.Sprint(n%3, " ", texts[n/3])), bits(t, first+rest[n/3]))
		}
	}
}

// P14.1: with one thread the first number is the Kind less 1; with the most, the greatest one is 4d; none has more than a byte.
func TestP14_1FirstEnds(t *testing.T) {
	made(t, sized(1, 1, 1)).writes(t, said(t, "0 wake"), "\x0c")
	made(t, sized(6, 1, 1)).writes(t, said(t, "0 wake"), "\x48")
	made(t, sized(6, 1, 1)).writes(t, said(t, "5 wake"), "\x4d")
	behind(t, sized(6, 1, 1), "1 wait").writes(t, said(t, "0 wake"), "\x4d")
	behind(t, sized(6, 1, 1), "5 wait").writes(t, said(t, "0 begin 0 0"), "\x01\x00\x00")
	behind(t, sized(6, 1, 1), "5 wait").writes(t, said(t, "5 begin 0 0"), "\x00\x00\x00")
	behind(t, sized(6, 1, 1), "5 wait").writes(t, said(t, "4 begin 0 0"), "\x05\x00\x00")
}

// coded tells that an event of a text, behind others, is written as these hexadecimal digits.
func coded(t *testing.T, size api.Trace, ahead, text, want string) {
	t.Helper()
	behind(t, size, ahead).writes(t, said(t, text), bits(t, want))
}

// hidden tells that an event of a text, behind others, may not be told.
func hidden(t *testing.T, size api.Trace, ahead, text string) {
	t.Helper()
	behind(t, size, ahead).hides(t, said(t, text))
}

// P14.1: a Begin's Tx, and its V at the clock, above it and below it; the clock is that of all threads, of Begins and Bumps.
func TestP14_1Begin(t *testing.T) {
	size := sized(2, 4, 2)
	for tx := range 6 {
		coded(t, size, "", fmt.Sprint("0 begin ", tx, " 0"), fmt.Sprintf("00 %02x 00", tx))
	}
	for _, ahead := range []string{"0 begin 0 300", "1 begin 1 300", "1 bump 300", "0 bump 300", "0 begin 0 7; 1 bump 300; 0 commit 0", "1 bump 7; 1 begin 3 300; 0 look 0 0; 0 load 0 999", "0 begin 0 300; 1 begin 0 300"} {
		b := behind(t, size, ahead+"; 0 wait")
		b.copied().writes(t, said(t, "0 begin 2 300"), bits(t, "00 02 00"))
		b.copied().writes(t, said(t, "0 begin 2 301"), bits(t, "00 02 01"))
		b.copied().writes(t, said(t, "1 begin 2 427"), bits(t, "01 02 7f"))
		b.copied().writes(t, said(t, "1 begin 2 428"), bits(t, "01 02 80 01"))
		b.copied().writes(t, said(t, "0 begin 5 1099511627776"), bits(t, "00 05 d4 fd ff ff ff 1f"))
		for _, v := range []int{299, 298, 1, 0, 7} {
			b.hides(t, api.Event{Kind: api.Begin, V: v})
			b.hides(t, api.Event{Kind: api.Begin, Thread: 1, V: v})
		}
	}
	coded(t, size, "", "0 begin 0 1099511627776", "00 00 80 80 80 80 80 20")
	coded(t, size, "0 begin 0 1099511627776", "1 begin 5 1099511627776", "01 05 00")
	hidden(t, size, "0 begin 0 1099511627776", "1 begin 0 1099511627775")
	hidden(t, size, "0 bump 1", "1 begin 0 0")
}

// P14.1: a Look's V at its thread's last Begin's, below it, above it; a Bump, and another thread's Begin, are nothing to it.
func TestP14_1Look(t *testing.T) {
	size := sized(2, 4, 3)
	coded(t, size, "", "0 look 2 0", "02 02 00")
	hidden(t, size, "", "0 look 0 1")
	hidden(t, size, "1 begin 0 300; 1 bump 301", "0 look 0 1")
	for _, ahead := range []string{"0 begin 0 300", "0 begin 0 300; 1 begin 0 900; 0 lock 0", "0 begin 0 300; 0 bump 900; 0 commit 900", "0 begin 0 4; 0 look 0 3; 0 begin 1 300", "1 begin 0 5; 0 begin 0 300; 1 bump 301; 0 look 1 7"} {
		b := behind(t, size, ahead+"; 0 wait")
		for at := range 3 {
			b.copied().writes(t, api.Event{Kind: api.Look, At: at, V: 300}, "\x02"+string([]byte{byte(at), 0}))
		}
		b.copied().writes(t, said(t, "0 look 1 299"), bits(t, "02 01 01"))
		b.copied().writes(t, said(t, "0 look 1 173"), bits(t, "02 01 7f"))
		b.copied().writes(t, said(t, "0 look 1 172"), bits(t, "02 01 80 01"))
		b.copied().writes(t, said(t, "0 look 1 0"), bits(t, "02 01 ac 02"))
		for _, v := range []int{301, 302, 900, 901, 1 << 40} {
			b.hides(t, api.Event{Kind: api.Look, At: 1, V: v})
		}
	}
	coded(t, size, "0 begin 0 1099511627776", "0 look 0 0", "02 00 80 80 80 80 80 20")
	coded(t, size, "0 begin 0 1099511627776", "0 look 0 1099511627776", "02 00 00")
}

// P14.1: a Load's, and a Store's, X, as the variable's last one, above it, below it, at the least and the greatest number.
func TestP14_1Value(t *testing.T) {
	for _, c := range []struct {
		last, x int64
		want    string
	}{
		{0, 0, "00"}, {0, 1, "02"}, {0, -1, "01"}, {0, 63, "7e"}, {0, -64, "7f"}, {0, 64, "80 01"}, {0, -65, "81 01"},
		{0, math.MaxInt64, "fe ff ff ff ff ff ff ff ff 01"}, {0, math.MinInt64, "ff ff ff ff ff ff ff ff ff 01"},
		{7, 7, "00"}, {7, 8, "02"}, {7, 6, "01"}, {7, -3, "13"}, {-7, -7, "00"}, {-7, 3, "14"}, {-7, -8, "01"},
		{math.MaxInt64, math.MaxInt64, "00"}, {math.MinInt64, math.MinInt64, "00"}, {math.MaxInt64, math.MinInt64, "02"}, {math.MinInt64, math.MaxInt64, "01"},
		{math.MaxInt64, 0, "fd ff ff ff ff ff ff ff ff 01"}, {math.MinInt64, 0, "ff ff ff ff ff ff ff ff ff 01"}, {1, math.MinInt64, "fe ff ff ff ff ff ff ff ff 01"}, {-1, math.MaxInt64, "ff ff ff ff ff ff ff ff ff 01"},
		{math.MaxInt64, math.MaxInt64 - 1, "01"}, {math.MinInt64, math.MinInt64 + 1, "02"}, {math.MaxInt64 - 1, math.MinInt64 + 1, "06"}, {1 << 62, -1 << 62, "ff ff ff ff ff ff ff ff ff 01"},
	} {
		for _, kinds := range [][2]uint8{{api.Load, api.Load}, {api.Store, api.Store}, {api.Load, api.Store}, {api.Store, api.Load}} {
			b := made(t, sized(1, 6, 2))
			for at, other := range []int64{5, 6, 7, 8, 9, 10} { // and what other variables have is nothing to it
				e := api.Event{Kind: kinds[at%2], At: at, X: other}
				b.writes(t, e, b.p.bytes(e))
			}
			e := api.Event{Kind: kinds[0], At: 4, X: c.last}
			b.writes(t, e, b.p.bytes(e))
			b.writes(t, api.Event{Kind: kinds[1], At: 4, X: c.x}, string([]byte{kinds[1] - 1, 4})+bits(t, c.want))
		}
	}
}

// P14.1: what a variable had last is of whatever thread, and of that variable alone, though another one has the same stripe.
func TestP14_1ValueOf(t *testing.T) {
	size := sized(2, 32, 1)
	coded(t, size, "0 load 0 9; 1 load 31 5", "0 store 31 5", "0f 1f 00")
	coded(t, size, "0 load 0 9; 1 load 31 5", "1 store 0 9", "0e 00 00")
	coded(t, size, "0 load 0 9; 1 load 31 5", "1 store 1 9", "0e 01 12")
	coded(t, size, "0 load 30 9; 1 store 30 -1; 0 load 30 2", "0 load 30 2", "04 1e 00")
}

// P14.1: Lock, Check, Free and Undo have their stripe.
func TestP14_1Stripe(t *testing.T) {
	for name, first := range map[string]int{"lock": 6, "check": 10, "free": 16, "undo": 20} {
		for at := range 31 {
			coded(t, sized(2, 32, 31), "1 begin 0 9", fmt.Sprint("1 ", name, " ", at), fmt.Sprintf("%02x %02x", first, at))
		}
		hidden(t, sized(2, 32, 31), "", fmt.Sprint("1 ", name, " 31"))
	}
}

// P14.1: a Bump above the clock, at it, below it; the clock is that of all threads, of Begins and Bumps.
func TestP14_1Bump(t *testing.T) {
	size := sized(2, 4, 2)
	coded(t, size, "", "1 bump 1", "09 01")
	coded(t, size, "", "0 bump 1099511627776", "08 80 80 80 80 80 20")
	for _, ahead := range []string{"0 begin 0 300", "1 begin 1 300", "1 bump 300", "0 bump 300", "0 begin 0 7; 1 bump 300; 0 commit 0", "0 begin 0 300; 0 look 0 5; 1 store 0 999"} {
		b := behind(t, size, ahead+"; 0 wait")
		b.copied().writes(t, said(t, "0 bump 301"), bits(t, "08 01"))
		b.copied().writes(t, said(t, "1 bump 427"), bits(t, "09 7f"))
		b.copied().writes(t, said(t, "1 bump 428"), bits(t, "09 80 01"))
		b.copied().writes(t, said(t, "0 bump 1099511627776"), bits(t, "08 d4 fd ff ff ff 1f"))
		for _, v := range []int{300, 299, 7, 1} {
			b.hides(t, api.Event{Kind: api.Bump, V: v})
			b.hides(t, api.Event{Kind: api.Bump, Thread: 1, V: v})
		}
	}
	coded(t, size, "0 begin 0 1099511627775", "0 bump 1099511627776", "08 01")
	hidden(t, size, "0 begin 0 1099511627776", "0 bump 1099511627776")
	hidden(t, size, "0 bump 1099511627776", "1 bump 1099511627776")
}

// P14.1: a Commit of V 0, of its thread's last Bump's, of another one, and where that thread has none.
func TestP14_1Commit(t *testing.T) {
	size := sized(2, 4, 2)
	for _, ahead := range []string{"", "0 begin 0 5", "0 begin 0 5; 1 bump 6"} {
		b := behind(t, size, ahead+"; 0 wait")
		b.copied().writes(t, said(t, "0 commit 0"), bits(t, "0c 00"))
		for _, v := range []int{1, 5, 6, 7, 1 << 40} {
			b.hides(t, api.Event{Kind: api.Commit, V: v})
		}
	}
	for _, ahead := range []string{"0 bump 9", "0 begin 0 8; 0 bump 9; 1 begin 0 11; 1 bump 12", "0 bump 2; 0 bump 9; 0 begin 0 10; 0 commit 0", "0 bump 9; 0 commit 9; 1 bump 12; 1 commit 12"} {
		b := behind(t, size, ahead+"; 0 wait")
		b.copied().writes(t, said(t, "0 commit 0"), bits(t, "0c 00"))
		b.copied().writes(t, said(t, "0 commit 9"), bits(t, "0c 01"))
		for _, v := range []int{1, 2, 8, 10, 11, 12, 1 << 40} {
			b.hides(t, api.Event{Kind: api.Commit, V: v})
		}
	}
	coded(t, size, "0 bump 1099511627776", "0 commit 1099511627776", "0c 01")
	coded(t, size, "0 bump 1", "0 commit 1", "0c 01")
	hidden(t, size, "0 bump 9", "1 commit 9")
}

// P14.1: each Why of an Abort; Full has nothing behind it, the others their stripe.
func TestP14_1Abort(t *testing.T) {
	for why := 1; why <= 5; why++ {
		for at := range 5 {
			coded(t, sized(2, 5, 5), "1 wait", fmt.Sprint("1 abort ", why, " ", at), fmt.Sprintf("12 %02x %02x", why-1, at))
		}
		hidden(t, sized(2, 5, 4), "", fmt.Sprint("1 abort ", why, " 4"))
	}
	coded(t, sized(2, 5, 5), "1 wait", "1 abort 6 0", "12 05")
	coded(t, sized(2, 5, 5), "1 wait", "0 abort 6 0", "13 05")
	b := made(t, sized(2, 5, 5))
	for _, e := range []api.Event{{Kind: api.Abort}, {Kind: api.Abort, Why: 7}, {Kind: api.Abort, Why: 255}, {Kind: api.Abort, Why: api.Full, At: 1}} {
		b.hides(t, e)
	}
}

// P14.1: Wait and Wake have nothing.
func TestP14_1Wait(t *testing.T) {
	coded(t, sized(2, 5, 5), "1 begin 0 7; 1 load 3 9", "1 wait", "16")
	coded(t, sized(2, 5, 5), "1 begin 0 7; 1 load 3 9", "0 wake", "19")
}

// P14.1: what event.May refuses may not be told: each Kind with one of its things beyond its ends, with one that it has not, of another thread, and Kinds that there are not.
func TestP14_1May(t *testing.T) {
	texts, _ := least()
	for _, size := range sizes() {
		b := made(t, size)
		for _, text := range texts {
			e := said(t, "0 "+text)
			for _, bad := range []func(*api.Event){
				func(e *api.Event) { e.Kind = 0 }, func(e *api.Event) { e.Kind = 14 }, func(e *api.Event) { e.Kind += 13 }, func(e *api.Event) { e.Kind = 255 },
				func(e *api.Event) { e.Thread = -1 }, func(e *api.Event) { e.Thread = size.Threads }, func(e *api.Event) { e.Thread = math.MinInt }, func(e *api.Event) { e.Thread = math.MaxInt },
				func(e *api.Event) { e.Tx = -1 }, func(e *api.Event) { e.Tx = 6 }, func(e *api.Event) { e.Tx = math.MaxInt }, func(e *api.Event) { e.Tx = math.MinInt },
				func(e *api.Event) { e.At = -1 }, func(e *api.Event) { e.At = size.Vars }, func(e *api.Event) { e.At = math.MaxInt }, func(e *api.Event) { e.At = math.MinInt },
				func(e *api.Event) { e.V = -1 }, func(e *api.Event) { e.V = 1<<40 + 1 }, func(e *api.Event) { e.V = math.MaxInt }, func(e *api.Event) { e.V = math.MinInt },
				func(e *api.Event) { e.Why = 7 }, func(e *api.Event) { e.Why = 255 },
			} {
				d := e
				bad(&d)
				b.hides(t, d)
			}
			for _, extra := range []api.Event{{Tx: 1}, {At: 1}, {V: 1}, {X: 1}, {Why: 1}} {
				d := e
				d.Tx, d.At, d.V, d.X, d.Why = d.Tx+extra.Tx, d.At+extra.At, d.V+extra.V, d.X+extra.X, d.Why+extra.Why
				b.copied().step(t, d)
			}
		}
	}
}

// P14.1: a writer with room for all of an event, for one byte less, for none; what does not fit leaves all as it was, and what is shorter still fits.
func TestP14_1Room(t *testing.T) {
	b := behind(t, sized(1, 2, 2), "0 begin 0 9; 0 load 1 5; 0 bump 12")
	long, short := said(t, "0 store 1 -9223372036854775808"), said(t, "0 wait")
	size := len(b.p.bytes(long))
	is(t, "how long it is", size, 12)
	for room := range 2*size + 3 {
		w, c := written(t, room), b.copied()
		left := room
		for _, e := range []api.Event{long, long, long, short, long, short, short, short, short, short} {
			text := c.p.bytes(e)
			if len(text) > left {
				hands(t, "Write of what does not fit", c.c.Write(w, e), api.ErrTooLarge)
				is(t, "Len", w.Len(), len(ahead)+room-left)
				c.keeps(t)
				continue
			}
			hands(t, "Write of what fits", c.c.Write(w, e), api.OK)
			left -= len(text)
			if !strings.HasSuffix(w.Text(), text) || w.Len() != len(ahead)+room-left {
				t.Fatalf("with room for %d: %x, %x", room, w.Text(), text)
			}
			c.p = c.p.and(e)
			c.keeps(t)
		}
	}
}

// P14.1: a writer that has as many bytes as there may be.
func TestP14_1Full(t *testing.T) {
	w, _ := bytes.NewWriter(api.MaxBytes)
	w.Raw(strings.Repeat("x", api.MaxBytes-2))
	b := made(t, sized(1, 1, 1))
	hands(t, "Write", b.c.Write(w, said(t, "0 begin 0 0")), api.ErrTooLarge)
	hands(t, "Write", b.c.Write(w, said(t, "0 lock 0")), api.OK)
	hands(t, "Write", b.c.Write(w, said(t, "0 wait")), api.ErrTooLarge)
	hands(t, "Write", b.c.Write(w, said(t, "0 lock 1")), api.ErrForm)
	is(t, "Len", w.Len(), api.MaxBytes)
}

// P14.1, R1: no coder, no writer, no reader; that is told ahead of all else.
func TestP14_1Nil(t *testing.T) {
	var none *delta.Coder
	b := behind(t, sized(2, 3, 2), "1 begin 0 5")
	texts, _ := least()
	for _, text := range append(texts, "lock 31") {
		e := said(t, "0 "+text)
		for _, w := range []*bytes.Writer{nil, written(t, 0), written(t, 100)} {
			hands(t, "Write without a coder", none.Write(w, e), api.ErrNil)
			is(t, "what is written then", max(w.Len(), len(ahead)), len(ahead))
		}
		hands(t, "Write without a writer", b.c.Write(nil, e), api.ErrNil)
	}
	for _, s := range []string{"", "\x00", "\x00\x00\x00", "\x80"} {
		r := reading(t, s)
		for _, r := range []*bytes.Reader{nil, r} {
			if e, wrong := none.Read(r); e != (api.Event{}) || wrong != api.ErrNil {
				t.Fatalf("Read without a coder: %+v, %v", e, wrong)
			}
		}
		is(t, "where it is then", r.At(), len(ahead))
		_, wrong := r.Wrong()
		hands(t, "Wrong then", wrong, api.OK)
	}
	if e, wrong := b.c.Read(nil); e != (api.Event{}) || wrong != api.ErrNil {
		t.Fatalf("Read without a reader: %+v, %v", e, wrong)
	}
	if none.Copy() != nil {
		t.Fatal("Copy of nil:", none.Copy())
	}
	b.keeps(t)
}

// R1: a Coder that New has not made is none.
func TestR1Zero(t *testing.T) {
	for _, c := range []*delta.Coder{{}, (&delta.Coder{}).Copy()} {
		texts, rest := least()
		for kind, text := range texts {
			w := written(t, 100)
			hands(t, "Write", c.Write(w, said(t, "0 "+text)), api.ErrNil)
			is(t, "what is written then", w.Text(), ahead)
			e, wrong := c.Read(reading(t, string([]byte{byte(kind)})+bits(t, rest[kind])))
			if e != (api.Event{}) || wrong != api.ErrNil {
				t.Fatalf("Read: %+v, %v", e, wrong)
			}
		}
	}
}

// rich is a coder that was told something of each Kind and each thread.
func rich(t testing.TB) *coding {
	return behind(t, sized(3, 32, 9), "0 begin 0 100; 2 begin 1 100; 2 look 1 90; 2 load 4 1125899906842624; 2 lock 2; 2 bump 101; 2 check 1; 2 commit 101; 2 store 5 -3; 2 free 2; 0 abort 2 2; 0 begin 0 101; 0 wait; 0 wake; 1 begin 3 200; 1 lock 8; 1 bump 500; 1 abort 5 8; 1 undo 8")
}

// P14.1: Read of each Kind, of each thread, with the least and the greatest of each number; one above, and the greatest number, are refused where it stands, and so is what is below.
func TestP14_1Ends(t *testing.T) {
	for _, b := range []*coding{rich(t), made(t, sized(1, 1, 1)), made(t, sized(6, 32, 31)), behind(t, sized(2, 5, 3), "1 begin 0 1099511627776; 0 load 1 7"), behind(t, sized(2, 5, 3), "1 bump 1099511627776")} {
		for thread := range b.p.Threads {
			for kind := api.Begin; kind <= api.Wake; kind++ {
				first, ends := b.p.first(kind, thread), b.p.ends(kind, thread)
				for n, end := range ends {
					ahead := numbers(first)
					for _, other := range ends[:n] {
						ahead += number(other[0])
					}
					behind := ""
					for _, other := range ends[n+1:] {
						behind += number(other[0])
					}
					for _, x := range []uint64{end[0], end[0] + 1, end[0] - 1, end[1], end[1] - 1, end[1] + 1, end[1] / 2, 127, 128, 1 << 31, 1 << 32, 1<<32 + end[0], 1 << 40, 1<<40 + 1, 1 << 63, 1<<63 - 1, 1<<63 + 1, math.MaxUint64 - 1, math.MaxUint64} {
						if x < end[0] || x > end[1] {
							b.refuses(t, ahead+number(x)+behind, len(ahead), api.ErrRange)
							b.refuses(t, ahead+number(x), len(ahead), api.ErrRange)
							continue
						}
						b.copied().goes(t, ahead+number(x)+behind)
					}
				}
				b.copied().goes(t, number(first)+"\x00\x00")
			}
		}
	}
}

// P14.1: the first number up to 13 times the threads less 1, and one more.
func TestP14_1FirstMost(t *testing.T) {
	for threads := 1; threads <= 6; threads++ {
		b := behind(t, sized(threads, 1, 1), fmt.Sprint(threads/2, " wake"))
		b.copied().reads(t, number(uint64(13*threads-1)), api.Event{Kind: api.Wake, Thread: (threads/2 + threads - 1) % threads})
		for _, n := range []uint64{uint64(13 * threads), uint64(13*threads + 1), 127, 128, 256, 1 << 32, 1 << 63, math.MaxUint64} {
			b.refuses(t, number(n)+"\x00\x00", 0, api.ErrRange)
		}
	}
}

// P14.1: what Read refuses, by hand, with the place: numbers above what there may be, a Bump 0, and a Commit 1 where its thread's last Bump is none.
func TestP14_1Range(t *testing.T) {
	size := sized(2, 4, 3)
	for _, c := range []struct {
		ahead, bits string
		place       int
	}{
		{"", "1a", 0}, {"", "ff 01", 0}, {"", "00 06 00", 1}, {"", "00 05 81 80 80 80 80 20", 2}, {"0 begin 0 5", "00 00 fc ff ff ff ff 1f", 2},
		{"", "02 03 00", 1}, {"", "02 00 01", 2}, {"0 begin 0 5", "02 00 06", 2}, {"0 begin 0 5; 1 begin 0 9", "03 02 06", 2},
		{"", "04 04 00", 1}, {"", "0e 04 00", 1}, {"", "06 03", 1}, {"", "0a 03", 1}, {"", "10 03", 1}, {"", "14 03", 1},
		{"", "08 00", 1}, {"", "08 81 80 80 80 80 20", 1}, {"0 begin 0 5", "08 00", 1}, {"0 begin 0 1099511627776", "08 00", 1}, {"0 begin 0 1099511627776", "08 01", 1},
		{"", "0c 01", 1}, {"", "0c 02", 1}, {"1 bump 5", "0d 01", 1}, {"1 bump 5", "0c 02", 1}, {"0 begin 0 5", "0c 01", 1},
		{"", "12 06 00", 1}, {"", "12 05 00", -1}, {"", "12 04 03", 2}, {"", "12 00 03", 2},
	} {
		b := behind(t, size, c.ahead)
		if c.place < 0 {
			_, ok := b.goes(t, bits(t, c.bits))
			is(t, "whether it is read", ok, true)
			continue
		}
		b.refuses(t, bits(t, c.bits), c.place, api.ErrRange)
	}
}

// P14.1: of bytes that end within an event, at each place, ErrShort, at the number that is not whole.
func TestP14_1Short(t *testing.T) {
	b := rich(t)
	made(t, api.Trace(b.p)).refuses(t, "", 0, api.ErrShort)
	for _, e := range b.p.near() {
		if !b.p.may(e) {
			continue
		}
		s := b.p.bytes(e)
		for n := range len(s) {
			place := n
			for place > 0 && s[place-1] >= 128 {
				place--
			}
			b.refuses(t, s[:n], place, api.ErrShort)
		}
	}
}

// P14.1: of a number, wherever it stands, whose last byte is 0 and not its first one, ErrWide; of one whose tenth byte is above 1, ErrRange; of one without an end, ErrShort.
func TestP14_1Wide(t *testing.T) {
	b := rich(t)
	for kind := api.Begin; kind <= api.Wake; kind++ {
		for thread := range 3 {
			l := []uint64{b.p.first(kind, thread)}
			for _, ends := range b.p.ends(kind, thread) {
				l = append(l, ends[0])
			}
			for n, x := range l {
				ahead, behind := numbers(l[:n]...), numbers(l[n+1:]...)
				for zeros := range 9 {
					wide := string([]byte{byte(x) | 128}) + strings.Repeat("\x80", zeros)
					b.refuses(t, ahead+wide+"\x00"+behind, len(ahead), api.ErrWide)
					b.refuses(t, ahead+wide, len(ahead), api.ErrShort)
				}
				for _, tenth := range []byte{2, 3, 127, 128, 129, 255} {
					b.refuses(t, ahead+strings.Repeat("\x80", 9)+string([]byte{tenth})+behind, len(ahead), api.ErrRange)
					b.refuses(t, ahead+strings.Repeat("\xff", 9)+string([]byte{tenth})+behind, len(ahead), api.ErrRange)
				}
			}
		}
	}
}

// P14.1: what was wrong ahead of a Read is answered, whatever stands there; the coder knows what it knew.
func TestP14_1Ahead(t *testing.T) {
	b := behind(t, sized(2, 3, 2), "1 begin 0 5; 1 bump 6")
	for _, e := range []api.Errno{api.ErrSum, api.ErrForm, api.ErrLong} {
		r := reading(t, "\x00\x00\x00")
		r.Fail(1, e)
		for range 2 {
			event, wrong := b.c.Read(r)
			is(t, "what is read", event, api.Event{})
			hands(t, "Read", wrong, e)
		}
		at, wrong := r.Wrong()
		is(t, "the place", at, 1)
		hands(t, "Wrong", wrong, e)
		b.keeps(t)
	}
}

// P14.1: a copy goes its own way, and so does that of which it is one.
func TestP14_1Copy(t *testing.T) {
	b := rich(t)
	c := b.copied()
	c.keeps(t)
	for _, text := range []string{"1 begin 4 600", "2 bump 601", "0 load 3 8", "1 store 31 9", "2 commit 601"} {
		c.step(t, said(t, text))
		b.keeps(t)
		c.keeps(t)
	}
	d := b.copied()
	for _, text := range []string{"0 bump 900", "0 begin 4 901", "1 load 3 -8", "0 commit 900"} {
		b.step(t, said(t, text))
		c.keeps(t)
		d.keeps(t)
	}
	for _, s := range []string{"00 00 05", "08 01", "03 01 03", "00 00 00"} {
		d.goes(t, bits(t, s))
		b.keeps(t)
		c.keeps(t)
	}
	if b.known(t) == c.known(t) || c.known(t) == d.known(t) || b.known(t) == d.known(t) {
		t.Fatal("they know the same")
	}
}
