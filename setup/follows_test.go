package setup_test

import (
	"slices"
	"testing"

	"seesaw/api"
	"seesaw/sample"
	"seesaw/setup"
)

// bare is a setup with as many transactions, all of them empty.
func bare(s api.Setup) api.Setup {
	var l []thread
	for _, one := range s.Threads {
		l = append(l, empty(len(one)))
	}
	s.Threads = l
	return s
}

// P6.3: a setup may be just if its numbers may, and each of its transactions, alone, behind as many others as there are ahead.
func TestP6_3(t *testing.T) {
	yes, numbers, some := 0, 0, 0
	for _, s := range append(odd(), mays()...) {
		is, each := setup.Check(bare(s)) == api.OK, true
		for _, l := range s.Threads {
			for n, x := range l {
				alone := setup.Check(of(behind(n, x)))
				if others := setup.Check(of(append(slices.Repeat(thread{retries(1)}, n), x))); others != alone {
					t.Fatalf("%v behind %d others: %v, %v", x, n, alone, others)
				}
				each = each && alone == api.OK
			}
		}
		checked(t, s, is && each)
		switch {
		case is && each:
			yes++
		case each:
			numbers++
		case is:
			some++
		}
	}
	if yes < 100 || numbers < 50 || some < 10 {
		t.Fatal("too few", yes, numbers, some)
	}
}

// P6.3: threads that may be may be in whatever row, and with each other's transactions at the same places.
func TestP6_3Turned(t *testing.T) {
	for _, s := range append(odd(), mays()...) {
		is := setup.Check(s) == api.OK
		slices.Reverse(s.Threads)
		checked(t, s, is)
		if many := len(s.Threads); many > 1 {
			a, b := s.Threads[0], s.Threads[many-1]
			for n := range min(len(a), len(b)) {
				a[n], b[n] = b[n], a[n]
				checked(t, s, is)
			}
		}
	}
}

// P6.4: each variable is of just one stripe, and among its variables; of all stripes these are all, each once.
func TestP6_4(t *testing.T) {
	for stripes := 1; stripes <= api.MaxVars+8; stripes++ {
		for vars := 1; vars <= 2*api.MaxVars; vars++ {
			var all []int
			for stripe := range stripes {
				l, e := setup.Variables(stripe, stripes, vars)
				if e != api.OK || !slices.IsSorted(l) || len(slices.Compact(slices.Clone(l))) != len(l) {
					t.Fatalf("Variables of %d among %d below %d: %v, %v", stripe, stripes, vars, l, e)
				}
				for v := range vars {
					if of, e := setup.Stripe(v, stripes); e != api.OK || slices.Contains(l, v) != (of == stripe) {
						t.Fatalf("%d among %d: %d, %v; Variables of %d below %d: %v", v, stripes, of, e, stripe, vars, l)
					}
				}
				all = append(all, l...)
			}
			slices.Sort(all)
			if len(all) != vars || all[0] != 0 || all[vars-1] != vars-1 || len(slices.Compact(all)) != vars {
				t.Fatalf("%d stripes of %d variables: %v", stripes, vars, all)
			}
		}
	}
}

// P6.5: a copy is the same, and a copy of it; two setups are the same just if nothing is another one, and a copy is then as the first.
func TestP6_5(t *testing.T) {
	l := append(odd(), mays()...)
	texts := make([]string, len(l))
	for i, a := range l {
		texts[i] = shown(a)
		c := setup.Copy(a)
		same(t, a, a, true)
		same(t, a, c, true)
		same(t, a, setup.Copy(c), true)
		checked(t, c, may(a))
		costs(t, c, costliest(a))
		for j, b := range l[:i] {
			same(t, a, b, texts[i] == texts[j])
			same(t, c, b, texts[i] == texts[j])
		}
	}
}

// P6.5: what two setups have in turn makes them unlike.
func TestP6_5Turned(t *testing.T) {
	for _, s := range []api.Setup{of(thread{retries(1)}, thread{retries(2)}), of(thread{retries(1), retries(2)}, nil), of(thread{retries(1)}, nil), rich()} {
		c := setup.Copy(s)
		slices.Reverse(c.Threads)
		same(t, s, c, false)
		c = setup.Copy(s)
		slices.Reverse(c.Init)
		same(t, s, c, false)
	}
	same(t, of(thread{retries(1), retries(2)}), of(thread{retries(2), retries(1)}), false)
	same(t, of(thread{retries(1), retries(2)}), of(thread{retries(1)}, thread{retries(2)}), false)
	same(t, of(thread{retries(3)}), of(thread{retries(1), retries(2)}), false)
}

// less are a setup without its last thread, without the last transaction of each one, and with fewer stripes.
func less(s api.Setup) []api.Setup {
	var l []api.Setup
	if last := len(s.Threads) - 1; last >= 0 {
		x := s
		x.Threads = s.Threads[:last]
		l = append(l, x)
	}
	for i, one := range s.Threads {
		if last := len(one) - 1; last >= 0 {
			x := s
			x.Threads = slices.Clone(s.Threads)
			x.Threads[i] = one[:last]
			l = append(l, x)
		}
	}
	for stripes := 1; stripes < s.Stripes; stripes++ {
		x := s
		x.Stripes = stripes
		l = append(l, x)
	}
	return l
}

// P6.6: with less a setup that may be may be, and with less of that, until nothing is left; without any stripe not.
func TestP6_6(t *testing.T) {
	next := sample.Noise(60)
	for _, s := range mays() {
		for _, x := range less(s) {
			allowed(t, x)
			same(t, x, s, false)
		}
		for l := less(s); len(l) > 0; l = less(s) {
			s = l[next(len(l))]
			allowed(t, s)
		}
		if len(s.Threads) != 0 || s.Stripes != 1 {
			t.Fatalf("left: %s", shown(s))
		}
		s.Stripes = 0
		refused(t, s)
	}
}

// R1: whatever setups and numbers fuzzing comes to: each call answers what the chapter's words say.
func FuzzSetup(f *testing.F) {
	f.Add("", 5, 3, 9)
	f.Add("\x00\x00\x00\x00\x00\x01\x03\x03\x03\x03\x05\x01\x02\x03\x04", 2, 3, 9)
	f.Add("\x01\x01\x01\x02\x01\x02\x02\x05\x02\x0e\x03\x01\x02\x01\x00\x01\x03\x02\x01\x00\x01", -1, 0, -1)
	f.Fuzz(func(t *testing.T, text string, stripe, stripes, vars int) {
		next := sample.Bytes(text)
		a, b := wild(next), wild(next)
		for _, s := range []api.Setup{a, b} {
			checked(t, s, may(s))
			costs(t, s, costliest(s))
			c := setup.Copy(s)
			same(t, s, c, true)
			same(t, alike(s), c, true)
			if shown(c) != shown(s) {
				t.Fatalf("Copy of %s: %s", shown(s), shown(c))
			}
		}
		same(t, a, b, shown(a) == shown(b))
		if stripe < 0 || stripes < 1 {
			stripeRefused(t, stripe, stripes)
		} else {
			stripeIs(t, stripe, stripes, stripe%stripes)
		}
		vars %= 1 << 12
		if stripes < 1 || vars < 1 || stripe < 0 || stripe >= stripes {
			variablesRefused(t, stripe, stripes, vars)
			return
		}
		var want []int
		for v := range vars {
			if v%stripes == stripe {
				want = append(want, v)
			}
		}
		variablesAre(t, stripe, stripes, vars, want...)
	})
}
