package event

import (
	"iter"
	"math"

	"seesaw/api"
)

// numbers are what an event may have besides its Kind and its Thread, each as wide as the widest of them.
type numbers struct{ Tx, At, V, X, Why int64 }

// of are an event's numbers.
func of(e api.Event) numbers {
	return numbers{Tx: int64(e.Tx), At: int64(e.At), V: int64(e.V), X: e.X, Why: int64(e.Why)}
}

// event is the one that has these numbers.
func (n *numbers) event(kind uint8, thread int) api.Event {
	return api.Event{Kind: kind, Thread: thread, Tx: int(n.Tx), At: int(n.At), V: int(n.V), X: n.X, Why: uint8(n.Why)}
}

// tx, at, v, x and why tell where each of them is.
func (n *numbers) tx() *int64  { return &n.Tx }
func (n *numbers) at() *int64  { return &n.At }
func (n *numbers) v() *int64   { return &n.V }
func (n *numbers) x() *int64   { return &n.X }
func (n *numbers) why() *int64 { return &n.Why }

// part is a thing that a Kind has: where among an event's numbers it is, and its bounds.
type part struct {
	where       func(*numbers) *int64
	least, most int64
}

// parts are what a Kind that there is has, over so many variables and stripes, in its row. They are told one by one, so that the array takes no memory that stays.
func parts(kind uint8, vars, stripes int) iter.Seq[part] {
	return func(yield func(part) bool) {
		tx := part{(*numbers).tx, 0, api.MaxTx - 1}
		clock := part{(*numbers).v, 0, api.MaxClock}
		bumped := part{(*numbers).v, 1, api.MaxClock}
		stripe := part{(*numbers).at, 0, int64(stripes) - 1}
		variable := part{(*numbers).at, 0, int64(vars) - 1}
		value := part{(*numbers).x, math.MinInt64, math.MaxInt64}
		why := part{(*numbers).why, int64(api.Held), int64(api.Full)}
		kinds := [...][]part{
			api.Begin:  row(tx, clock),
			api.Look:   row(stripe, clock),
			api.Load:   row(variable, value),
			api.Lock:   row(stripe),
			api.Bump:   row(bumped),
			api.Check:  row(stripe),
			api.Commit: row(clock),
			api.Store:  row(variable, value),
			api.Free:   row(stripe),
			api.Abort:  row(why, stripe),
			api.Undo:   row(stripe),
			api.Wait:   row(),
			api.Wake:   row(),
		}
		for _, p := range kinds[kind] {
			if !yield(p) {
				return
			}
		}
	}
}

// row is a list of these parts.
func row(l ...part) []part { return l }
