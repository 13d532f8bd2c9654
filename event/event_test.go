package event_test

import (
	"math"
	"slices"
	"strings"
	"testing"

	"seesaw/api"
	"seesaw/event"
	"seesaw/sample"
)

// P12.1, P12.2: the chapter's examples.
func TestP12_1Examples(t *testing.T) {
	look := api.Event{Kind: api.Look, Thread: 2, At: 3, V: 7}
	full := api.Event{Kind: api.Abort, Why: api.Full}
	wait := api.Event{Kind: api.Wait, Thread: 1}
	texts(t, look, "2 look 3 7")
	texts(t, full, "0 abort 6 0")
	texts(t, wait, "1 wait")
	for _, e := range []api.Event{look, full, wait} {
		may(t, e, size{3, 4, 4}, true)
	}
	for _, s := range []string{"1 wait 0", "01 wait", "1 bump 0"} {
		refused(t, s)
	}
}

// P12.1: of each Kind, over some sizes: each thing that it has at its ends, and one beyond each end; each other combination of these, too.
func TestP12_1Ends(t *testing.T) {
	for _, r := range table() {
		for _, s := range sizes() {
			for _, e := range ends(r, s) {
				may(t, e, s, true)
				for _, letter := range r.has {
					least, most := bounds(letter, s.vars, s.stripes)
					if letter == 'x' {
						continue // there is nothing beyond
					}
					for _, far := range []int64{least - 1, most + 1} {
						may(t, put(e, letter, far), s, false)
					}
				}
			}
		}
	}
}

// P12.1: each number that something may have is taken, far ones are not, also those whose last bytes are as of one that may be.
func TestP12_1Numbers(t *testing.T) {
	for _, s := range sizes() {
		for _, r := range table() {
			for _, letter := range r.has {
				least, most := bounds(letter, s.vars, s.stripes)
				for _, n := range []int64{math.MinInt64, math.MinInt64 + 1, -1 << 40, -1 << 32, -256, -1, 0, 1, 2, 3, 4, 5, 6, 7, 30, 31, 32, 33, 255, 256, 257, 1 << 16, 1 << 32, 1<<32 + 1, 1<<40 - 1, 1 << 40, 1<<40 + 1, math.MaxInt64 - 1, math.MaxInt64} {
					if letter == 'w' && n != int64(uint8(n)) {
						continue // there is no such Why
					}
					may(t, put(bare(r), letter, n), s, least <= n && n <= most)
				}
			}
		}
	}
}

// P12.1: a Thread is one of those that there are.
func TestP12_1Thread(t *testing.T) {
	for _, r := range table() {
		for threads := 1; threads <= 6; threads++ {
			for _, thread := range []int{math.MinInt, -1, 0, threads - 1, threads, threads + 1, 6, 7, 256, 1 << 32, math.MaxInt} {
				e := bare(r)
				e.Thread = thread
				may(t, e, size{threads, 2, 2}, 0 <= thread && thread < threads)
			}
		}
	}
}

// P12.1: a Kind that there is not may not be, whatever it has.
func TestP12_1NoKind(t *testing.T) {
	for kind := range 256 {
		if 1 <= kind && kind <= 13 {
			continue
		}
		for _, r := range table() {
			e := bare(r)
			e.Kind = uint8(kind)
			may(t, e, size{6, 32, 32}, false)
			hides(t, e)
		}
	}
	may(t, api.Event{}, size{1, 1, 1}, false)
}

// P12.1: over numbers of threads, variables and stripes at their ends and beyond: where there may not be so many no event may be.
func TestP12_1Sizes(t *testing.T) {
	far := []int{math.MinInt, -1, 0, 1, 2, 5, 6, 7, 31, 32, 33, 256, 1 << 32, math.MaxInt}
	for _, r := range table() {
		for _, threads := range far {
			for _, vars := range far {
				for _, stripes := range append(far, vars-1, vars, vars+1) {
					want := slices.Contains([]int{1, 2, 5, 6}, threads) && slices.Contains([]int{1, 2, 5, 6, 7, 31, 32}, vars) && 1 <= stripes && stripes <= vars
					may(t, bare(r), size{threads, vars, stripes}, want)
				}
			}
		}
	}
}

// P12.1: an Abort of each Why, at 0, at the last stripe, and beyond; one of Full is at 0 alone.
func TestP12_1Abort(t *testing.T) {
	for why := range 256 {
		for _, at := range []int{-1, 0, 1, 4, 5, 31, 32} {
			e := api.Event{Kind: api.Abort, Why: uint8(why), At: at}
			may(t, e, size{6, 8, 5}, 1 <= why && why <= 5 && 0 <= at && at < 5 || why == 6 && at == 0)
			says(t, e)
		}
	}
}

// P12.1: each event of numbers at which something might go wrong, over some sizes, is as the chapter's words say.
func TestP12_1Any(t *testing.T) {
	for kind := range uint8(15) {
		for _, thread := range []int{-1, 0, 5, 6} {
			for _, tx := range []int{-1, 0, 5, 6} {
				for _, at := range []int{-1, 0, 1, 31, 32} {
					for _, v := range []int{-1, 0, 1, 1 << 40, 1<<40 + 1} {
						for _, x := range []int64{0, 1, math.MinInt64} {
							for _, why := range []uint8{0, 1, 5, 6, 7} {
								e := api.Event{Kind: kind, Thread: thread, Tx: tx, At: at, V: v, X: x, Why: why}
								for _, s := range []size{{6, 32, 32}, {1, 2, 1}} {
									may(t, e, s, mayBe(e, s.threads, s.vars, s.stripes))
								}
							}
						}
					}
				}
			}
		}
	}
}

// P12.1, P12.2: any events over any sizes, among them many that may be, are as the chapter's words say.
func TestP12_1Wild(t *testing.T) {
	next := sample.Noise(12)
	can := 0
	for range 30000 {
		e, s := wild(next), some(next)
		want := mayBe(e, s.threads, s.vars, s.stripes)
		may(t, e, s, want)
		says(t, e)
		about(t, e, s.stripes, striped(e, s.stripes))
		if want {
			can++
		}
	}
	if can < 500 {
		t.Fatal("so few may be:", can)
	}
}

// P12.1: each Kind's name, and no other number's.
func TestP12_1Name(t *testing.T) {
	names := map[uint8]string{1: "begin", 2: "look", 3: "load", 4: "lock", 5: "bump", 6: "check", 7: "commit", 8: "store", 9: "free", 10: "abort", 11: "undo", 12: "wait", 13: "wake"}
	for kind := range 256 {
		if name := event.Name(uint8(kind)); name != names[uint8(kind)] {
			t.Errorf("Name of %d: %q; want %q", kind, name, names[uint8(kind)])
		}
	}
}

// P12.1: the Kind of each name, and of nothing else, be it nearly one.
func TestP12_1Kind(t *testing.T) {
	for _, r := range table() {
		if kind, is := event.Kind(r.name); kind != r.kind || !is {
			t.Errorf("Kind of %q: %d, %v; want %d", r.name, kind, is, r.kind)
		}
		n := r.name
		for _, name := range []string{" " + n, n + " ", n + "\n", strings.ToUpper(n), strings.ToUpper(n[:1]) + n[1:], n[:len(n)-1] + strings.ToUpper(n[len(n)-1:]), n[:len(n)-1], n[1:], n[:1], n + "s", n + n, n + "\x00", n[:2] + " " + n[2:], "0 " + n, n + " 0"} {
			if kind, is := event.Kind(name); kind != 0 || is {
				t.Errorf("Kind of %q: %d, %v; want none", name, kind, is)
			}
		}
	}
	for _, name := range []string{"", " ", "0", "1", "\x01", "\xff", "read", "held", "full", "Begin", "beginlook", strings.Repeat("wait", 1000)} {
		if kind, is := event.Kind(name); kind != 0 || is {
			t.Errorf("Kind of %q: %d, %v; want none", name, kind, is)
		}
	}
}

// P12.1: the stripe of each Kind, of each variable or stripe, with each number of stripes: it is At, or of a variable what is left of it by that number.
func TestP12_1Stripe(t *testing.T) {
	for stripes := 1; stripes <= 32; stripes++ {
		for at := range 40 {
			for _, kind := range []uint8{api.Look, api.Lock, api.Check, api.Free, api.Undo} {
				about(t, api.Event{Kind: kind, At: at}, stripes, at)
			}
			for _, kind := range []uint8{api.Load, api.Store} {
				about(t, api.Event{Kind: kind, At: at, X: -5}, stripes, at%stripes)
			}
			for why := api.Held; why <= api.Stale; why++ {
				about(t, api.Event{Kind: api.Abort, Why: why, At: at}, stripes, at)
			}
			about(t, api.Event{Kind: api.Abort, Why: api.Full, At: at}, stripes, -1)
			for _, kind := range []uint8{0, api.Begin, api.Bump, api.Commit, api.Wait, api.Wake, 14, 255} {
				about(t, api.Event{Kind: kind, At: at}, stripes, -1)
			}
		}
	}
}

// P12.1: where stripes is below 1, or At below 0, there is none, of whatever Kind.
func TestP12_1StripeNone(t *testing.T) {
	for kind := range uint8(15) {
		for why := range uint8(8) {
			for _, n := range []int{math.MinInt, math.MinInt + 1, -32, -2, -1} {
				about(t, api.Event{Kind: kind, At: n, Why: why}, 1, -1)
				about(t, api.Event{Kind: kind, At: n, Why: why}, 3, -1)
				about(t, api.Event{Kind: kind, At: n, Why: why}, n, -1)
				about(t, api.Event{Kind: kind, At: 3, Why: why}, n, -1)
			}
			about(t, api.Event{Kind: kind, At: 0, Why: why}, 0, -1)
			about(t, api.Event{Kind: kind, At: 3, Why: why}, 0, -1)
			about(t, api.Event{Kind: kind, At: -1, Why: why}, 0, -1)
		}
	}
}

// P12.1: Stripe asks nothing else of an event: of numbers far beyond, of another Thread, and of things that its Kind has not, it tells the same.
func TestP12_1StripeFar(t *testing.T) {
	for _, e := range []api.Event{{}, {Thread: -1}, {Thread: math.MaxInt, Tx: -3, V: -9, X: 7}} {
		e.At = math.MaxInt
		for kind, want := range map[uint8]int{api.Look: math.MaxInt, api.Lock: math.MaxInt, api.Check: math.MaxInt, api.Free: math.MaxInt, api.Undo: math.MaxInt, api.Abort: math.MaxInt, api.Load: math.MaxInt % 5, api.Store: math.MaxInt % 5, api.Begin: -1, api.Wake: -1} {
			e.Kind = kind
			about(t, e, 5, want)
		}
		e.Kind, e.At = api.Store, 77
		about(t, e, math.MaxInt, 77)
		about(t, e, 33, 11)
		e.Why = api.Full // which a Store has not
		about(t, e, 10, 7)
	}
}

// P12.2: texts written out, of each Kind.
func TestP12_2Texts(t *testing.T) {
	for s, e := range map[string]api.Event{
		"0 begin 0 0":                     {Kind: api.Begin},
		"5 begin 5 1099511627776":         {Kind: api.Begin, Thread: 5, Tx: 5, V: 1 << 40},
		"1 look 31 1099511627776":         {Kind: api.Look, Thread: 1, At: 31, V: 1 << 40},
		"2 look 0 10":                     {Kind: api.Look, Thread: 2, V: 10},
		"4 load 31 0":                     {Kind: api.Load, Thread: 4, At: 31},
		"0 load 0 -1":                     {Kind: api.Load, X: -1},
		"0 load 7 9223372036854775807":    {Kind: api.Load, At: 7, X: math.MaxInt64},
		"3 lock 20":                       {Kind: api.Lock, Thread: 3, At: 20},
		"0 bump 1":                        {Kind: api.Bump, V: 1},
		"1 check 9":                       {Kind: api.Check, Thread: 1, At: 9},
		"5 commit 0":                      {Kind: api.Commit, Thread: 5},
		"5 commit 100":                    {Kind: api.Commit, Thread: 5, V: 100},
		"0 store 10 -9223372036854775808": {Kind: api.Store, At: 10, X: math.MinInt64},
		"2 free 1":                        {Kind: api.Free, Thread: 2, At: 1},
		"2 abort 1 0":                     {Kind: api.Abort, Thread: 2, Why: api.Held},
		"2 abort 2 1":                     {Kind: api.Abort, Thread: 2, Why: api.Newer, At: 1},
		"2 abort 3 2":                     {Kind: api.Abort, Thread: 2, Why: api.Moved, At: 2},
		"2 abort 4 3":                     {Kind: api.Abort, Thread: 2, Why: api.Busy, At: 3},
		"2 abort 5 4":                     {Kind: api.Abort, Thread: 2, Why: api.Stale, At: 4},
		"2 abort 6 0":                     {Kind: api.Abort, Thread: 2, Why: api.Full},
		"3 undo 30":                       {Kind: api.Undo, Thread: 3, At: 30},
		"0 wait":                          {Kind: api.Wait},
		"5 wake":                          {Kind: api.Wake, Thread: 5},
	} {
		texts(t, e, s)
	}
}

// P12.2: events of each Kind at the ends of what it has, and between, are shown as the chapter's words say.
func TestP12_2Ends(t *testing.T) {
	for _, e := range everything() {
		texts(t, e, shown(e))
	}
}

// P12.2: what may not be, over the most threads, variables and stripes, has no text.
func TestP12_2NoShow(t *testing.T) {
	for _, r := range table() {
		for _, e := range ends(r, size{6, 32, 32}) {
			for _, thread := range []int{-1, 6, math.MinInt, math.MaxInt} {
				e := e
				e.Thread = thread
				hides(t, e)
			}
			for _, letter := range "tcswx" {
				for _, n := range []int64{-1, 1, 2, 6, 7, 32, 1<<40 + 1} {
					if letter == 'w' {
						n = int64(uint8(n))
					}
					says(t, put(e, letter, n))
				}
			}
		}
	}
	hides(t, api.Event{})
}

// P12.2: texts that are nearly an event's are refused: spaces, 0s ahead of a digit, signs, no digits, numbers beyond their bounds, too few and too many, other names.
func TestP12_2Nearly(t *testing.T) {
	for _, s := range []string{
		"", " ", "  ", "0", "0 ", " 0", "wait", " wait", "wait 0", "0 0", "0 wait wait", "wait wait", "0\twait", "0\nwait", "0\x00wait", "0wait", "0 wait\n", "0 wait\x00", "\xff wait", "0 \xff", "é wait",
		"0  wait", " 0 wait", "0 wait ", "0 wait 0", "0 wait  ", "00 wait", "-0 wait", "+0 wait", "+1 wait", "-1 wait", "6 wait", "10 wait", "05 wait", "0x1 wait", "1_0 wait", "0. wait", "1e0 wait", "a wait", "- wait", "+ wait", "٣ wait",
		"18446744073709551616 wait", "18446744073709551617 wait", "4294967296 wait", "9223372036854775808 wait", "99999999999999999999999 wait",
		"0 Wait", "0 WAIT", "0 waiT", "0 wai", "0 ait", "0 waits", "0 wait0", "0 12", "0 wàit", "0 read 1", "0 none",
		"0 begin", "0 begin 0", "0 begin 0 ", "0 begin  0 0", "0 begin 0  0", "0 begin 0 0 ", "0 begin 0 0 0", "0 begin 6 0", "0 begin -1 0", "0 begin 0 -1", "0 begin 0 1099511627777", "0 begin 00 0", "0 begin 0 00", "0 begin 0 01", "0 begin 0 -0", "0 begin 0 +5", "0 begin 0 5x", "0 begin 0,5", "0 begin\t0 5",
		"0 look 32 0", "0 look -1 0", "0 look 0 1099511627777", "0 look 0 -1", "0 look 0", "0 look 03 0", "0 look 0 18446744073709551616",
		"0 load 32 0", "0 load -1 0", "0 load 0", "0 load 0 9223372036854775808", "0 load 0 -9223372036854775809", "0 load 0 18446744073709551616", "0 load 0 -0", "0 load 0 -", "0 load 0 --1", "0 load 0 -01", "0 load 0 +1", "0 load 0 - 1", "0 load 0 -1 ", "0 load 0 1 1", "0 load 0 1_000", "0 load 0 0x10",
		"0 lock", "0 lock ", "0 lock 32", "0 lock -1", "0 lock 0 0", "0 lock 4294967296", "0 lock 18446744073709551616",
		"0 bump", "0 bump 0", "0 bump -1", "0 bump 1099511627777", "0 bump 1 1", "0 bump 01",
		"0 check 32", "0 check -1", "0 check", "0 commit", "0 commit -1", "0 commit 1099511627777", "0 commit 0 0", "0 commit -0",
		"0 store 32 0", "0 store 0", "0 store 0 9223372036854775808", "0 free 32", "0 free", "0 undo 32", "0 undo",
		"0 abort", "0 abort 1", "0 abort 0 0", "0 abort 7 0", "0 abort 6 1", "0 abort 6", "0 abort 1 32", "0 abort 1 -1", "0 abort -1 0", "0 abort 257 0", "0 abort 262 0", "0 abort 1 0 0", "0 abort held 0", "0 abort 01 0",
		"0 wake 0", "0 wake 1", "0 wake ",
	} {
		refused(t, s)
		if reads(t, s) {
			t.Errorf("%q is an event's", s)
		}
	}
}

// P12.2: each text with something put in, put instead, or left out at each place is as the chapter's words say.
func TestP12_2Bent(t *testing.T) {
	events := 0
	for _, r := range table() {
		for _, e := range []api.Event{bare(r), slices.MaxFunc(ends(r, size{6, 32, 32}), func(a, b api.Event) int { return len(shown(a)) - len(shown(b)) })} {
			for _, s := range bent(shown(e)) {
				if reads(t, s) {
					events++
				}
			}
		}
	}
	if events == 0 {
		t.Fatal("no bent text is an event's")
	}
}

// P12.2: each short text of some bytes is as the chapter's words say.
func TestP12_2Short(t *testing.T) {
	words := []string{"", "0", "5", "6", "-1", "-0", "00", "32", "wait", "load", "bump", "a"}
	for _, a := range words {
		for _, b := range words {
			for _, c := range words {
				for _, d := range words {
					for _, l := range [][]string{{a, b}, {a, b, c}, {a, b, c, d}, {a, b, c, d, "0"}} {
						reads(t, strings.Join(l, " "))
					}
				}
			}
		}
	}
}

// P12.2, R1: very long texts are refused.
func TestP12_2Long(t *testing.T) {
	for _, part := range []string{" ", "0", "9", "-", "a", "0 ", "wait ", "0 wait", "\x00", "1 load 0 "} {
		s := strings.Repeat(part, 1<<20)
		refused(t, s)
		refused(t, "0 wait"+s)
		refused(t, "0 load 0 "+s)
		refused(t, "0 load 0 -"+s)
		refused(t, s+" wait")
	}
}
