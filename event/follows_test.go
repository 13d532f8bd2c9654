package event_test

import (
	"math"
	"strings"
	"testing"

	"seesaw/api"
	"seesaw/event"
	"seesaw/sample"
)

// P12.3: Parse of Show is the event, Show of Parse the text.
func TestP12_3(t *testing.T) {
	for _, e := range everything() {
		s, wrong := event.Show(e)
		if wrong != api.OK {
			t.Fatalf("Show of %+v: %v", e, wrong)
		}
		d, wrong := event.Parse(s)
		if d != e || wrong != api.OK {
			t.Fatalf("Parse of %q, which is Show of %+v: %+v, %v", s, e, d, wrong)
		}
		if again, wrong := event.Show(d); again != s || wrong != api.OK {
			t.Fatalf("Show of Parse of %q: %q, %v", s, again, wrong)
		}
	}
}

// P12.3: whatever texts that are nearly an event's come: what is parsed is shown as that text, and may be.
func TestP12_3Texts(t *testing.T) {
	for _, r := range table() {
		for _, s := range bent(shown(bare(r))) {
			back(t, s)
		}
	}
}

// back tells that Show of what Parse tells is the text.
func back(t testing.TB, s string) {
	t.Helper()
	e, wrong := event.Parse(s)
	if wrong != api.OK {
		return
	}
	may(t, e, size{6, 32, 32}, true)
	if again, wrong := event.Show(e); again != s || wrong != api.OK {
		t.Fatalf("Show of Parse of %q: %q, %v", s, again, wrong)
	}
}

// P12.4: an event that may be, of each Kind, with each thing that it has not set to something else than 0, may not be.
func TestP12_4(t *testing.T) {
	for _, s := range sizes() {
		for _, r := range table() {
			for _, e := range ends(r, s) {
				for _, letter := range lacks(r) {
					for _, n := range []int64{1, -1, 5, 6, 255, 1 << 32, math.MaxInt64, math.MinInt64} {
						if letter == 'w' {
							n = n&7 + 1
						}
						may(t, put(e, letter, n), s, false)
						hides(t, put(e, letter, n))
					}
				}
			}
		}
	}
}

// lacks are the letters of what a Kind has not.
func lacks(r row) string {
	return strings.Map(func(letter rune) rune {
		if strings.ContainsFunc(r.has, func(has rune) bool { return put(api.Event{}, has, 1) == put(api.Event{}, letter, 1) }) {
			return -1
		}
		return letter
	}, "tcsxw")
}

// P12.5: what may be may be over more threads, more variables, and more stripes.
func TestP12_5(t *testing.T) {
	for _, r := range table() {
		for _, s := range sizes() {
			for _, e := range ends(r, s) {
				for threads := s.threads; threads <= 6; threads++ {
					for vars := s.vars; vars <= 32; vars++ {
						may(t, e, size{threads, vars, s.stripes}, true)
						may(t, e, size{threads, vars, vars}, true)
					}
				}
			}
		}
	}
}

// P12.5: any event, over any sizes: one more of each, if it may be.
func TestP12_5Any(t *testing.T) {
	next := sample.Noise(5)
	can := 0
	for range 30000 {
		e, s := wild(next), some(next)
		if !event.May(e, s.threads, s.vars, s.stripes) {
			continue
		}
		can++
		if s.threads < 6 {
			may(t, e, size{s.threads + 1, s.vars, s.stripes}, true)
		}
		if s.vars < 32 {
			may(t, e, size{s.threads, s.vars + 1, s.stripes}, true)
		}
		if s.stripes < s.vars {
			may(t, e, size{s.threads, s.vars, s.stripes + 1}, true)
		}
	}
	if can < 500 {
		t.Fatal("so few may be:", can)
	}
}

// P12.6: unlike events have unlike texts.
func TestP12_6Texts(t *testing.T) {
	seen := map[string]api.Event{}
	l := everything()
	for _, e := range l {
		s, _ := event.Show(e)
		if was, there := seen[s]; there {
			t.Fatalf("%q is the text of %+v and of %+v", s, was, e)
		}
		seen[s] = e
	}
	if len(seen) != len(l) || len(l) < 500 {
		t.Fatal(len(seen), len(l))
	}
}

// P12.6: each Kind has a name of its own, that tells it.
func TestP12_6Names(t *testing.T) {
	seen := map[string]bool{}
	for kind := api.Begin; kind <= api.Wake; kind++ {
		name := event.Name(kind)
		if name == "" || seen[name] {
			t.Fatalf("Name of %d: %q", kind, name)
		}
		seen[name] = true
		if k, is := event.Kind(name); k != kind || !is {
			t.Fatalf("Kind of %q: %d, %v; want %d", name, k, is, kind)
		}
	}
}

// R1: the same is answered again, whatever was asked between.
func TestR1Again(t *testing.T) {
	for range 3 {
		for _, e := range everything() {
			texts(t, e, shown(e))
			refused(t, shown(e)+" ")
		}
	}
}

// P12.1, P12.2, R1: whatever events and sizes fuzzing comes to: each call is as the chapter's words say.
func FuzzEvent(f *testing.F) {
	f.Add(uint8(1), 0, 0, 0, 0, int64(0), uint8(0), 1, 1, 1)
	f.Add(uint8(10), 5, 0, 3, 0, int64(0), uint8(4), 6, 32, 32)
	f.Add(uint8(8), 2, 0, 9, 0, int64(math.MinInt64), uint8(0), 3, 10, 4)
	f.Fuzz(func(t *testing.T, kind uint8, thread, tx, at, v int, x int64, why uint8, threads, vars, stripes int) {
		e := api.Event{Kind: kind, Thread: thread, Tx: tx, At: at, V: v, X: x, Why: why}
		s := size{threads, vars, stripes}
		may(t, e, s, mayBe(e, threads, vars, stripes))
		says(t, e)
		about(t, e, stripes, striped(e, stripes))
	})
}

// P12.2, P12.3, R1: whatever texts fuzzing comes to are read as the chapter's words say.
func FuzzParse(f *testing.F) {
	for _, e := range everything() {
		f.Add(shown(e))
	}
	f.Fuzz(func(t *testing.T, s string) {
		reads(t, s)
		back(t, s)
	})
}
