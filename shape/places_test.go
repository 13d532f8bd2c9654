package shape_test

import (
	"slices"
	"strings"
	"testing"

	"seesaw/api"
	"seesaw/event"
	"seesaw/sample"
)

// place is a trace, over three threads, five variables and three stripes, and which events of the thread 0 may come behind it, of those with clocks up to 9, and the value 0.
type place struct{ ahead, may string }

// candidates are events of the thread 0: each Kind with each number that a place's list might have, and more.
func candidates() []api.Event {
	var l []api.Event
	for kind := range api.Wake + 2 {
		for _, e := range sample.Events(sized(3, 5, 3), 0, kind, []int{-1, 0, 1, 2, 3, 4, 5, 6, 7, 8, 9}) {
			if e.X == 0 {
				l = append(l, e)
			}
		}
	}
	return l
}

// holds tells that of the candidates just those may come behind a trace that a place says; each other one leaves all as it was.
func (p place) holds(t testing.TB) {
	t.Helper()
	c := behind(t, of(t, sized(3, 5, 3), p.ahead))
	was := tells(c)
	for range 2 { // twice, as what was refused might have changed what is told nowhere
		var l []string
		for _, e := range candidates() {
			if wrong := c.Copy().Next(e); wrong == api.OK {
				s, _ := event.Show(e)
				l = append(l, strings.TrimPrefix(s, "0 "))
			} else {
				hands(t, "Next", c.Next(e), api.ErrForm)
			}
		}
		is(t, "what it tells", tells(c), was)
		want := strings.Split(p.may, "; ")
		if p.may == "" {
			want = nil
		}
		if !slices.Equal(l, want) {
			t.Fatalf("behind %q may come:\n%s\nwant:\n%s", p.ahead, strings.Join(l, "; "), p.may)
		}
	}
}

// all tells it of each of these places.
func all(t *testing.T, l []place) {
	t.Helper()
	for _, p := range l {
		p.holds(t)
	}
}

// wrote is what a thread does that writes to the variable 0 alone, in its first transaction, as the first one of all.
const wrote = "1 begin 0 0; 1 lock 0; 1 bump 1; 1 commit 1; 1 store 0 0; 1 free 0; "

// P13.1: between attempts: a Begin of the Tx that is next, at the clock or above it.
func TestP13_1Between(t *testing.T) {
	all(t, []place{
		{"", "begin 0 0; begin 0 1; begin 0 2; begin 0 3; begin 0 4; begin 0 5; begin 0 6; begin 0 7; begin 0 8; begin 0 9"},
		{"1 begin 0 8", "begin 0 8; begin 0 9"},
		{"1 begin 0 0; 1 lock 0; 1 bump 9", "begin 0 9"},
		{"1 begin 0 10", ""},
		{"1 begin 0 0; 1 lock 0; 1 bump 10", ""},
		{"0 begin 0 8; 0 commit 0", "begin 1 8; begin 1 9"},
		{"0 begin 0 8; 0 commit 0; 0 begin 1 9; 0 commit 0", "begin 2 9"},
		{"0 begin 0 7; 0 lock 2; 0 bump 9; 0 commit 9; 0 store 2 0; 0 free 2", "begin 1 9"},
		{"0 begin 0 0; 0 commit 0; 0 begin 1 0; 0 commit 0; 0 begin 2 0; 0 commit 0; 0 begin 3 0; 0 commit 0; 0 begin 4 9; 0 commit 0", "begin 5 9"},
		{"0 begin 0 0; 0 commit 0; 0 begin 1 0; 0 commit 0; 0 begin 2 0; 0 commit 0; 0 begin 3 0; 0 commit 0; 0 begin 4 9; 0 commit 0; 0 begin 5 9; 0 commit 0", ""},
		{"1 begin 0 9; 1 lock 1; 0 begin 0 9; 0 abort 1 1", "begin 0 9"},
		{"1 begin 0 9; 1 lock 1; 0 begin 0 9; 0 abort 4 1", "begin 0 9"},
		{"1 begin 0 9; 1 lock 1; 0 begin 0 9; 0 lock 0; 0 abort 4 1; 0 undo 0", "begin 0 9"},
		{"0 begin 0 8; 0 look 0 0; 0 load 0 0; 1 begin 0 8; 1 lock 0; 1 bump 9; 1 commit 9; 1 store 0 0; 1 free 0; 0 abort 2 0", "begin 0 9"},
	})
}

// P13.1: reading: Looks from a stripe's version to RV, Locks, a Commit of 0, a Wait; Aborts of stripes that are owned, or newer.
func TestP13_1Reads(t *testing.T) {
	all(t, []place{
		{"0 begin 0 0", "look 0 0; look 1 0; look 2 0; lock 0; lock 1; lock 2; commit 0; wait"},
		{"0 begin 0 2", "look 0 0; look 0 1; look 0 2; look 1 0; look 1 1; look 1 2; look 2 0; look 2 1; look 2 2; lock 0; lock 1; lock 2; commit 0; wait"},
		{"1 begin 0 3; 1 look 1 2; 0 begin 0 3; 0 look 0 3; 0 load 3 0", "look 0 3; look 1 2; look 1 3; look 2 0; look 2 1; look 2 2; look 2 3; lock 0; lock 1; lock 2; commit 0; wait"},
		{"1 begin 0 0; 1 lock 0; 1 lock 1; 0 begin 0 0", "look 2 0; lock 2; commit 0; abort 1 0; abort 1 1; abort 4 0; abort 4 1; wait"},
		{"1 begin 0 0; 1 lock 0; 2 begin 0 0; 2 lock 1; 2 lock 2; 0 begin 0 0", "commit 0; abort 1 0; abort 1 1; abort 1 2; abort 4 0; abort 4 1; abort 4 2; wait"},
		{"0 begin 0 0; " + wrote, "look 1 0; look 2 0; lock 0; lock 1; lock 2; commit 0; abort 2 0; wait"},
		{"0 begin 0 0; 0 look 0 0; 0 load 0 0; " + wrote, "look 1 0; look 2 0; lock 0; lock 1; lock 2; commit 0; abort 2 0; wait"},
		{"0 begin 0 0; " + wrote + "1 begin 1 1; 1 lock 0", "look 1 0; look 2 0; lock 1; lock 2; commit 0; abort 1 0; abort 4 0; wait"},
		{"0 begin 0 0; " + wrote + "1 begin 1 1; 1 look 2 1", "look 1 0; lock 0; lock 1; lock 2; commit 0; abort 2 0; abort 2 2; wait"},
	})
}

// P13.1: having looked: a Load of a variable of that stripe, or, if it is not as it was seen, an Abort of Moved.
func TestP13_1Looked(t *testing.T) {
	all(t, []place{
		{"0 begin 0 1; 0 look 0 0", "load 0 0; load 3 0"},
		{"0 begin 0 1; 0 look 1 1", "load 1 0; load 4 0"},
		{"0 begin 0 1; 0 look 2 1; 1 begin 0 1; 1 lock 0; 1 lock 1", "load 2 0"},
		{"0 begin 0 1; 0 look 0 1; 1 begin 0 1; 1 look 0 1", "load 0 0; load 3 0"},
		{"0 begin 0 1; 0 look 0 1; 1 begin 0 1; 1 lock 0", "abort 3 0"},
		{"0 begin 0 1; 0 look 0 1; 1 begin 0 1; 1 lock 0; 1 lock 1; 1 abort 6 0; 1 undo 0", "load 0 0; load 3 0"},
		{"0 begin 0 1; 0 look 2 1; 1 begin 0 1; 1 lock 2; 1 bump 2; 1 commit 2; 1 store 2 0", "abort 3 2"},
		{"0 begin 0 1; 0 look 2 1; 1 begin 0 1; 1 lock 2; 1 bump 2; 1 commit 2; 1 store 2 0; 1 free 2", "abort 3 2"},
		{"0 begin 0 1; 0 look 0 0; 1 begin 0 1; 1 look 0 1", "abort 3 0"},
		{"0 begin 0 1; 0 look 0 1; 0 load 0 0; 0 look 1 0; 1 begin 0 1; 1 lock 0", "load 1 0; load 4 0"},
		{"1 begin 0 1; 1 look 0 1; 1 load 0 0; 0 begin 0 1; 0 look 0 1; 0 load 0 0; 0 look 1 0", "load 1 0; load 4 0"},
	})
}

// P13.1: locking: stripes rise, and are nobody's; a Bump above the clock; Aborts of those that are another one's, and of Full.
func TestP13_1Locks(t *testing.T) {
	all(t, []place{
		{"0 begin 0 7; 0 lock 0", "lock 1; lock 2; bump 8; bump 9; abort 6 0"},
		{"0 begin 0 7; 0 lock 1", "lock 2; bump 8; bump 9; abort 6 0"},
		{"0 begin 0 7; 0 lock 2", "bump 8; bump 9; abort 6 0"},
		{"0 begin 0 7; 0 lock 0; 0 lock 2", "bump 8; bump 9; abort 6 0"},
		{"0 begin 0 7; 0 lock 0; 1 begin 0 8", "lock 1; lock 2; bump 9; abort 6 0"},
		{"0 begin 0 7; 0 lock 0; 1 begin 0 9", "lock 1; lock 2; abort 6 0"},
		{"0 begin 0 7; 0 lock 1; 1 begin 0 7; 1 lock 0; 1 lock 2; 1 bump 9", "abort 4 2; abort 6 0"},
		{"0 begin 0 7; 0 lock 0; 1 begin 0 7; 1 lock 1; 2 begin 0 7; 2 lock 2", "bump 8; bump 9; abort 4 1; abort 4 2; abort 6 0"},
		{"0 begin 0 7; 0 look 0 0; 0 load 0 0; " + strings.ReplaceAll(strings.ReplaceAll(wrote, " 0 0; 1 lock", " 0 7; 1 lock"), "bump 1; 1 commit 1", "bump 8; 1 commit 8") + "0 lock 0", "lock 1; lock 2; bump 9; abort 6 0"},
	})
}

// P13.1: checking: what it has read, rising, if WV is not RV and 1; then a Commit of WV.
func TestP13_1Checks(t *testing.T) {
	reads := "0 begin 0 3; 0 look 2 1; 0 load 2 0; 0 look 0 3; 0 load 3 0; 0 lock 1; "
	all(t, []place{
		{"0 begin 0 3; 0 lock 1; 0 bump 4", "commit 4"},
		{"0 begin 0 3; 0 lock 1; 0 bump 6", "commit 6"},
		{reads + "0 bump 4", "commit 4"},
		{reads + "0 bump 4; 1 begin 0 9; 1 look 2 9; 1 load 2 0; 1 lock 0", "commit 4"},
		{reads + "0 bump 5", "check 0"},
		{reads + "0 bump 5; 0 check 0", "check 2"},
		{reads + "0 bump 5; 0 check 0; 0 check 2", "commit 5"},
		{reads + "1 begin 0 4; 0 bump 5", "check 0"},
		{reads + "0 bump 5; 1 begin 0 5; 1 lock 0", "abort 5 0"},
		{reads + "0 bump 5; 1 begin 0 5; 1 lock 2", "check 0"},
		{reads + "0 bump 5; 1 begin 0 5; 1 lock 2; 0 check 0", "abort 5 2"},
		{reads + "0 bump 5; 0 check 0; 1 begin 0 5; 1 lock 0", "check 2"},
		{reads + "0 bump 5; 0 check 0; 1 begin 0 5; 1 look 0 5", "check 2"},
		{reads + "0 bump 5; 1 begin 0 5; 1 look 2 3", "check 0"},
		{reads + "0 bump 5; 1 begin 0 5; 1 look 2 3; 0 check 0", "check 2"},
		{reads + "0 bump 5; 1 begin 0 5; 1 look 2 4; 0 check 0", "abort 5 2"},
		{reads + "0 bump 5; 1 begin 0 5; 1 look 0 4", "abort 5 0"},
		{"0 begin 0 3; 0 look 1 3; 0 load 1 0; 0 lock 0; 0 lock 1; 0 lock 2; 0 bump 5", "check 1"},
		{"0 begin 0 3; 0 look 1 3; 0 load 1 0; 1 begin 0 4; 1 look 1 4; 0 lock 0; 0 lock 1; 0 lock 2; 0 bump 6", "abort 5 1"},
		{"0 begin 0 3; 0 look 1 3; 0 load 1 0; 1 begin 0 4; 1 look 1 4; 0 lock 0; 0 lock 1; 0 lock 2; 0 bump 6; 0 abort 5 1", "undo 0"},
		{"0 begin 0 0; 0 look 2 0; 0 load 2 0; 0 look 2 0; 0 load 2 0; 0 lock 2; 0 bump 9", "check 2"},
		{"0 begin 0 0; 0 look 2 0; 0 load 2 0; 0 look 2 0; 0 load 2 0; 0 lock 2; 0 bump 9; 0 check 2", "commit 9"},
		// What another attempt of it has read it has not read.
		{"0 begin 0 0; 0 look 0 0; 0 load 0 0; 0 commit 0; 0 begin 1 0; 0 look 1 0; 0 load 1 0; 0 lock 2; 0 bump 9", "check 1"},
		{"0 begin 0 0; 0 look 0 0; 0 load 0 0; 0 lock 0; 0 bump 2; 0 check 0; 0 commit 2; 0 store 0 0; 0 free 0; 0 begin 1 2; 0 lock 2; 0 bump 9", "commit 9"},
	})
}

// P13.1: storing: variables rise, of stripes that it owns; a Free of the least one, if to each of these was stored.
func TestP13_1Stores(t *testing.T) {
	ahead := "0 begin 0 0; 0 lock 0; 0 lock 2; 0 bump 9; 0 commit 9"
	all(t, []place{
		{ahead, "store 0 0; store 2 0; store 3 0"},
		{ahead + "; 0 store 0 7", "store 2 0; store 3 0"},
		{ahead + "; 0 store 0 7; 0 store 2 7", "store 3 0; free 0"},
		{ahead + "; 0 store 0 7; 0 store 3 7", ""},
		{ahead + "; 0 store 0 7; 0 store 2 7; 0 store 3 7", "free 0"},
		{ahead + "; 0 store 2 7", "store 3 0"},
		{ahead + "; 0 store 2 7; 0 store 3 7", "free 0"},
		{ahead + "; 0 store 3 7", ""},
		{"0 begin 0 0; 0 lock 1; 0 bump 9; 0 commit 9", "store 1 0; store 4 0"},
		{"0 begin 0 0; 0 lock 1; 0 bump 9; 0 commit 9; 0 store 1 0", "store 4 0; free 1"},
		{"0 begin 0 0; 0 lock 1; 0 bump 9; 0 commit 9; 0 store 4 0", "free 1"},
		{"1 begin 0 0; 1 lock 0; 0 begin 0 0; 0 lock 1; 2 begin 0 0; 2 lock 2; 0 bump 9; 0 commit 9; 0 store 1 0", "store 4 0; free 1"},
		{"0 begin 0 0; 0 lock 0; 0 bump 1; 0 commit 1; 0 store 0 0; 0 free 0; 0 begin 1 1; 0 lock 0; 0 bump 2; 0 commit 2", "store 0 0; store 3 0"},
	})
}

// P13.1: freeing: what it owns, rising; nothing else.
func TestP13_1Frees(t *testing.T) {
	ahead := "0 begin 0 0; 0 lock 0; 0 lock 1; 0 lock 2; 0 bump 8; 0 commit 8; 0 store 0 0; 0 store 1 0; 0 store 2 0; "
	all(t, []place{
		{ahead + "0 free 0", "free 1"},
		{ahead + "0 free 0; 0 free 1", "free 2"},
		{ahead + "0 free 0; 1 begin 0 8; 1 lock 0; 0 free 1", "free 2"},
		{ahead + "0 free 0; 0 free 1; 0 free 2", "begin 1 8; begin 1 9"},
	})
}

// P13.1: undoing: what it owns, rising; then it is between attempts, or, behind an Abort of Full, has ended for good.
func TestP13_1Undoes(t *testing.T) {
	ahead := "1 begin 0 8; 1 lock 2; 0 begin 0 8; 0 lock 0; 0 lock 1; "
	all(t, []place{
		{ahead + "0 abort 4 2", "undo 0"},
		{ahead + "0 abort 4 2; 0 undo 0", "undo 1"},
		{ahead + "0 abort 4 2; 0 undo 0; 0 undo 1", "begin 0 8; begin 0 9"},
		{ahead + "0 abort 6 0", "undo 0"},
		{ahead + "0 abort 6 0; 0 undo 0", "undo 1"},
		{ahead + "0 abort 6 0; 0 undo 0; 0 undo 1", ""},
		{ahead + "0 abort 6 0; 0 undo 0; 1 abort 6 0; 1 undo 2; 0 undo 1", ""},
		{"0 begin 0 3; 0 look 0 3; 0 load 0 0; 0 lock 1; 0 lock 2; 0 bump 5; 1 begin 0 8; 1 lock 0; 0 abort 5 0", "undo 1"},
		{"0 begin 0 3; 0 look 0 3; 0 load 0 0; 0 lock 1; 0 lock 2; 0 bump 5; 1 begin 0 8; 1 lock 0; 0 abort 5 0; 0 undo 1", "undo 2"},
		{"0 begin 0 3; 0 look 0 3; 0 load 0 0; 0 lock 1; 0 lock 2; 0 bump 5; 1 begin 0 8; 1 lock 0; 0 abort 5 0; 0 undo 1; 0 undo 2", "begin 0 8; begin 0 9"},
	})
}

// P13.1: an Undo leaves a stripe's version as it is, a Free does not.
func TestP13_1UndoVersion(t *testing.T) {
	c := behind(t, of(t, sized(1, 2, 2), "0 begin 0 5; 0 look 1 3; 0 load 1 0; 0 lock 0; 0 lock 1; 0 bump 7; 0 check 1; 0 commit 7; 0 store 0 0; 0 store 1 0; 0 free 0; 0 free 1; 0 begin 1 8; 0 lock 0; 0 lock 1; 0 abort 6 0; 0 undo 0; 0 undo 1"))
	is(t, "Version", c.Version(0), 7)
	is(t, "Version", c.Version(1), 7)
}

// P13.1: waiting: a Wake, if of the stripes that it has read one is nobody's, and above RV.
func TestP13_1Waits(t *testing.T) {
	read := "0 begin 0 0; 0 look 0 0; 0 load 0 0; 0 look 1 0; 0 load 1 0; 0 wait; "
	all(t, []place{
		{"0 begin 0 0; 0 wait", ""},
		{"0 begin 0 0; 0 wait; " + wrote, ""},
		{read, ""},
		{read + wrote, "wake"},
		{read + strings.TrimSuffix(wrote, "1 free 0; "), ""},
		{read + wrote + "1 begin 1 1; 1 lock 0", ""},
		{read + wrote + "1 begin 1 1; 1 lock 0; 1 abort 6 0; 1 undo 0", "wake"},
		{read + "1 begin 0 5; 1 look 1 5; 1 load 1 0; 1 lock 0", "wake"},
		{read + "1 begin 0 5; 1 look 1 5; 1 load 1 0; 1 lock 1", ""},
		{read + "1 begin 0 5; 1 look 2 5; 1 load 2 0", ""},
		{read + wrote + "0 wake", "begin 0 1; begin 0 2; begin 0 3; begin 0 4; begin 0 5; begin 0 6; begin 0 7; begin 0 8; begin 0 9"},
		{"0 begin 0 3; 0 look 0 1; 0 load 0 0; 0 wait; 1 begin 0 3; 1 look 0 3", ""},
		{"0 begin 0 3; 0 look 0 1; 0 load 0 0; 0 wait; 1 begin 0 4; 1 look 0 3", ""},
		{"0 begin 0 3; 0 look 0 1; 0 load 0 0; 0 wait; 1 begin 0 4; 1 look 0 4", "wake"},
		{"0 begin 0 0; 0 look 0 0; 0 load 0 0; 0 commit 0; 0 begin 1 0; 0 look 2 0; 0 load 2 0; 0 wait; " + wrote, ""},
	})
}
