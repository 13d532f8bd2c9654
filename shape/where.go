package shape

import "seesaw/api"

// Where a thread is.
const (
	between = iota // attempts
	reads          // and owns nothing
	looked         // and is to load
	locks
	checks
	stores
	frees
	undoes // and is between attempts then
	quits  // undoes, too, but has ended for good then
	waits
	ended // for good
)

// step lets an event of a thread, about a stripe, come, if all that must be is so; else it changes nothing.
type step func(c *Checker, t *thread, s int, e api.Event) bool

// row is what lets such an event come where a thread is; there is none, if it may not come there, whatever else is so.
func row(where int, e api.Event) step {
	kind := e.Kind
	if kind == api.Abort {
		kind = api.Wake + e.Why // Aborts stand behind all Kinds, each Why for itself
	}
	places := [...][api.Wake + api.Full + 1]step{
		between: {api.Begin: (*Checker).begin},
		reads: {
			api.Look: (*Checker).look, api.Lock: (*Checker).lock, api.Commit: (*Checker).rest, api.Wait: (*Checker).wait,
			api.Wake + api.Held: (*Checker).held, api.Wake + api.Newer: (*Checker).newer, api.Wake + api.Busy: (*Checker).busy,
		},
		looked: {api.Load: (*Checker).load, api.Wake + api.Moved: (*Checker).moved},
		locks: {
			api.Lock: (*Checker).lock, api.Bump: (*Checker).bump,
			api.Wake + api.Busy: (*Checker).busy, api.Wake + api.Full: (*Checker).full,
		},
		checks: {api.Check: (*Checker).check, api.Commit: (*Checker).commit, api.Wake + api.Stale: (*Checker).stale},
		stores: {api.Store: (*Checker).store, api.Free: (*Checker).free},
		frees:  {api.Free: (*Checker).free},
		undoes: {api.Undo: (*Checker).undo},
		quits:  {api.Undo: (*Checker).undo},
		waits:  {api.Wake: (*Checker).wake},
		ended:  {},
	}
	return places[where][kind]
}
