package event_test

import (
	"fmt"
	"maps"
	"math"
	"math/big"
	"regexp"
	"slices"
	"strings"
	"testing"

	"seesaw/api"
	"seesaw/event"
	"seesaw/sample"
)

// row is a row of the chapter's table: a Kind, its name, and what it has, a letter each: t is Tx, c a clock, b a clock that was bumped, s a stripe, v a variable, x a value, w why.
type row struct {
	kind      uint8
	name, has string
}

// table is the chapter's table a second time.
func table() []row {
	return []row{
		{api.Begin, "begin", "tc"}, {api.Look, "look", "sc"}, {api.Load, "load", "vx"}, {api.Lock, "lock", "s"}, {api.Bump, "bump", "b"}, {api.Check, "check", "s"}, {api.Commit, "commit", "c"},
		{api.Store, "store", "vx"}, {api.Free, "free", "s"}, {api.Abort, "abort", "ws"}, {api.Undo, "undo", "s"}, {api.Wait, "wait", ""}, {api.Wake, "wake", ""},
	}
}

// bounds are the least and the greatest number of what a letter stands for, over so many variables and stripes.
func bounds(letter rune, vars, stripes int) (least, most int64) {
	switch letter {
	case 't':
		return 0, 5
	case 'c':
		return 0, 1 << 40
	case 'b':
		return 1, 1 << 40
	case 's':
		return 0, int64(stripes - 1)
	case 'v':
		return 0, int64(vars - 1)
	case 'x':
		return math.MinInt64, math.MaxInt64
	}
	return 1, 6
}

// put is an event with what a letter stands for set to a number.
func put(e api.Event, letter rune, n int64) api.Event {
	switch letter {
	case 't':
		e.Tx = int(n)
	case 'c', 'b':
		e.V = int(n)
	case 's', 'v':
		e.At = int(n)
	case 'x':
		e.X = n
	case 'w':
		e.Why = uint8(n)
	}
	return e
}

// bare is an event of a Kind that may be over any sizes: what it has is as near to 0 as may be.
func bare(r row) api.Event {
	e := api.Event{Kind: r.kind}
	for _, letter := range r.has {
		least, _ := bounds(letter, 1, 1)
		e = put(e, letter, max(least, 0))
	}
	return e
}

// mayBe are the chapter's words a second time, Kind by Kind: whether an event may be.
func mayBe(e api.Event, threads, vars, stripes int) bool {
	if threads < 1 || threads > 6 || vars < 1 || vars > 32 || stripes < 1 || stripes > vars || e.Thread < 0 || e.Thread >= threads {
		return false
	}
	clock, stripe, variable := 0 <= e.V && e.V <= 1<<40, 0 <= e.At && e.At < stripes, 0 <= e.At && e.At < vars
	only := api.Event{Kind: e.Kind, Thread: e.Thread}
	may := false
	switch e.Kind {
	case api.Begin:
		only.Tx, only.V = e.Tx, e.V
		may = clock && 0 <= e.Tx && e.Tx < 6
	case api.Look:
		only.At, only.V = e.At, e.V
		may = stripe && clock
	case api.Load, api.Store:
		only.At, only.X = e.At, e.X
		may = variable
	case api.Lock, api.Check, api.Free, api.Undo:
		only.At = e.At
		may = stripe
	case api.Bump:
		only.V = e.V
		may = clock && e.V != 0
	case api.Commit:
		only.V = e.V
		may = clock
	case api.Abort:
		only.Why, only.At = e.Why, e.At
		may = 1 <= e.Why && e.Why <= 5 && stripe || e.Why == 6 && e.At == 0
	case api.Wait, api.Wake:
		may = true
	}
	return may && e == only
}

// shown are the chapter's words a second time: the text of an event that may be.
func shown(e api.Event) string {
	switch e.Kind {
	case api.Begin:
		return fmt.Sprintf("%d begin %d %d", e.Thread, e.Tx, e.V)
	case api.Look:
		return fmt.Sprintf("%d look %d %d", e.Thread, e.At, e.V)
	case api.Load:
		return fmt.Sprintf("%d load %d %d", e.Thread, e.At, e.X)
	case api.Lock:
		return fmt.Sprintf("%d lock %d", e.Thread, e.At)
	case api.Bump:
		return fmt.Sprintf("%d bump %d", e.Thread, e.V)
	case api.Check:
		return fmt.Sprintf("%d check %d", e.Thread, e.At)
	case api.Commit:
		return fmt.Sprintf("%d commit %d", e.Thread, e.V)
	case api.Store:
		return fmt.Sprintf("%d store %d %d", e.Thread, e.At, e.X)
	case api.Free:
		return fmt.Sprintf("%d free %d", e.Thread, e.At)
	case api.Abort:
		return fmt.Sprintf("%d abort %d %d", e.Thread, e.Why, e.At)
	case api.Undo:
		return fmt.Sprintf("%d undo %d", e.Thread, e.At)
	case api.Wait:
		return fmt.Sprintf("%d wait", e.Thread)
	}
	return fmt.Sprintf("%d wake", e.Thread)
}

// striped are the chapter's words a second time: the stripe that an event is about; -1, if it is about none.
func striped(e api.Event, stripes int) int {
	looks := []uint8{api.Look, api.Lock, api.Check, api.Free, api.Undo}
	switch {
	case stripes < 1 || e.At < 0:
	case slices.Contains(looks, e.Kind), e.Kind == api.Abort && e.Why != 6:
		return e.At
	case e.Kind == api.Load || e.Kind == api.Store:
		return e.At % stripes
	}
	return -1
}

// digits are a number as the chapter writes it.
const digits = `(0|-?[1-9][0-9]*)`

// forms are how each Kind's texts look, by the rows of the table.
func forms() map[*regexp.Regexp]row {
	l := map[*regexp.Regexp]row{}
	for _, r := range table() {
		l[regexp.MustCompile(`\A`+digits+` `+r.name+strings.Repeat(` `+digits, len(r.has))+`\z`)] = r
	}
	return l
}

// formed are the forms, made once.
var formed = forms()

// parsed are the chapter's words a second time: the event of a text, if it is one.
func parsed(s string) (api.Event, bool) {
	for form, r := range formed {
		words := form.FindStringSubmatch(s)
		if words == nil {
			continue
		}
		var l []int64
		for _, word := range words[1:] {
			n, _ := new(big.Int).SetString(word, 10)
			if !n.IsInt64() {
				return api.Event{}, false
			}
			l = append(l, n.Int64())
		}
		e := api.Event{Kind: r.kind, Thread: int(l[0])}
		for i, letter := range r.has {
			if letter == 'w' && (l[i+1] < 1 || l[i+1] > 6) {
				return api.Event{}, false
			}
			e = put(e, letter, l[i+1])
		}
		return e, mayBe(e, 6, 32, 32)
	}
	return api.Event{}, false
}

// size is over how many threads, variables and stripes events are.
type size struct{ threads, vars, stripes int }

// sizes are some that there may be, among them the least and the greatest.
func sizes() []size {
	return []size{{1, 1, 1}, {6, 32, 32}, {6, 32, 1}, {1, 32, 31}, {2, 3, 2}, {3, 5, 5}, {5, 2, 1}}
}

// may tells what May answers.
func may(t testing.TB, e api.Event, s size, want bool) {
	t.Helper()
	if is := event.May(e, s.threads, s.vars, s.stripes); is != want {
		t.Fatalf("May of %+v over %+v: %v; want %v", e, s, is, want)
	}
}

// texts tells that an event has just this text, and back.
func texts(t testing.TB, e api.Event, want string) {
	t.Helper()
	if s, wrong := event.Show(e); s != want || wrong != api.OK {
		t.Fatalf("Show of %+v: %q, %v; want %q", e, s, wrong, want)
	}
	if d, wrong := event.Parse(want); d != e || wrong != api.OK {
		t.Fatalf("Parse of %q: %+v, %v; want %+v", want, d, wrong, e)
	}
}

// hides tells that an event has no text.
func hides(t testing.TB, e api.Event) {
	t.Helper()
	if s, wrong := event.Show(e); s != "" || wrong != api.ErrForm {
		t.Fatalf("Show of %+v: %q, %v; want none, %v", e, s, wrong, api.ErrForm)
	}
}

// refused tells that a text is no event's.
func refused(t testing.TB, s string) {
	t.Helper()
	if e, wrong := event.Parse(s); e != (api.Event{}) || wrong != api.ErrForm {
		t.Fatalf("Parse of %q: %+v, %v; want none, %v", s, e, wrong, api.ErrForm)
	}
}

// reads tells that Parse of a text is as the chapter's words say, and whether it is an event's.
func reads(t testing.TB, s string) bool {
	t.Helper()
	e, is := parsed(s)
	if is {
		texts(t, e, s)
	} else {
		refused(t, s)
	}
	return is
}

// says tells that an event is shown as the chapter's words say.
func says(t testing.TB, e api.Event) {
	t.Helper()
	if mayBe(e, 6, 32, 32) {
		texts(t, e, shown(e))
	} else {
		hides(t, e)
	}
}

// about tells what Stripe answers; a stripe of -1: none.
func about(t testing.TB, e api.Event, stripes, want int) {
	t.Helper()
	n, is := event.Stripe(e, stripes)
	if is != (want >= 0) || n != max(want, 0) {
		t.Fatalf("Stripe of %+v, of %d: %d, %v; want %d", e, stripes, n, is, want)
	}
}

// ends are events of a Kind that may be over these sizes: all that have the least, the greatest, or one between of each thing that there is.
func ends(r row, s size) []api.Event {
	var l []api.Event
	for _, thread := range few(0, int64(s.threads-1)) {
		l = append(l, api.Event{Kind: r.kind, Thread: int(thread)})
	}
	for _, letter := range r.has {
		var next []api.Event
		for _, e := range l {
			for _, n := range few(bounds(letter, s.vars, s.stripes)) {
				if e.Kind == api.Abort && letter == 's' && e.Why == api.Full {
					n = 0
				}
				next = append(next, put(e, letter, n))
			}
		}
		l = next
	}
	return unique(l)
}

// few are some numbers from least to most, both among them.
func few(least, most int64) []int64 {
	l := []int64{least, most}
	for _, n := range []int64{least + 1, most - 1, -1, 0, 1, 10, 7<<20 + 9} {
		if least <= n && n <= most && !slices.Contains(l, n) {
			l = append(l, n)
		}
	}
	return l
}

// unique are events, each once, in their row.
func unique(l []api.Event) []api.Event {
	seen := map[api.Event]bool{}
	return slices.DeleteFunc(l, func(e api.Event) bool {
		was := seen[e]
		seen[e] = true
		return was
	})
}

// everything are events of all Kinds that may be over the greatest sizes.
func everything() []api.Event {
	var l []api.Event
	for _, r := range table() {
		l = append(l, ends(r, size{6, 32, 32})...)
	}
	return l
}

// wild is an event that may be, or nearly, or not at all.
func wild(next sample.Next) api.Event {
	e := api.Event{Kind: uint8(next(15)), Thread: next(8) - next(2)}
	has := "t c w s x"[next(9):]
	for _, r := range table() {
		if r.kind == e.Kind && next(4) > 0 {
			has = r.has
		}
	}
	for _, letter := range has {
		least, most := bounds(letter, 1+next(33), 1+next(33))
		l := append(few(least, most), least-1, most+1)
		e = put(e, letter, l[next(len(l))])
	}
	return e
}

// some are sizes that may be, or not.
func some(next sample.Next) size {
	vars := next(35) - next(2)
	return size{next(9) - next(2), vars, vars + next(3) - next(20)}
}

// bent are texts that are nearly this one: at each place something is put in, put instead, or left out.
func bent(s string) []string {
	all := map[string]bool{}
	for i := range len(s) + 1 {
		for _, c := range []string{" ", "  ", "\t", "\n", "0", "00", "1", "9", "-", "-0", "+", "_", ".", "a", "k", "K", "\x00", "\xff", "é", "99999999999999999999", " 0", "0 "} {
			all[s[:i]+c+s[i:]] = true
			if i < len(s) {
				all[s[:i]+c+s[i+1:]] = true
			}
		}
		if i < len(s) {
			all[s[:i]+s[i+1:]] = true
			all[s[:i]] = true
			all[s[i:]] = true
			all[s[:i]+strings.ToUpper(s[i:i+1])+s[i+1:]] = true
		}
	}
	delete(all, s)
	return slices.Sorted(maps.Keys(all))
}
