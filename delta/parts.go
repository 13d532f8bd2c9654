package delta

import (
	"math"

	"seesaw/api"
	"seesaw/varint"
)

// number writes a number as it is handed over, or reads one from least to most in its place; it tells which one stands there.
type number func(n, least, most uint64) uint64

// int does so with whole numbers.
func (num number) int(n, least, most int) int {
	return int(num(uint64(n), uint64(least), uint64(most)))
}

// part passes what an event of a Kind has: each thing becomes what num tells of it, so that what is written stays, and what is read is put there.
type part func(c *Coder, e *api.Event, num number)

// pass passes all of an event.
func (c *Coder) pass(e *api.Event, num number) {
	c.who(e, num)
	kinds := [...]part{
		api.Begin:  (*Coder).begin,
		api.Look:   (*Coder).look,
		api.Load:   (*Coder).value,
		api.Lock:   (*Coder).stripe,
		api.Bump:   (*Coder).bump,
		api.Check:  (*Coder).stripe,
		api.Commit: (*Coder).commit,
		api.Store:  (*Coder).value,
		api.Free:   (*Coder).stripe,
		api.Abort:  (*Coder).abort,
		api.Undo:   (*Coder).stripe,
		api.Wait:   (*Coder).nothing,
		api.Wake:   (*Coder).nothing,
	}
	kinds[e.Kind](c, e, num)
}

// who passes a Kind, and a Thread.
func (c *Coder) who(e *api.Event, num number) {
	threads := c.over.threads
	behind := (e.Thread - c.last + threads) % threads
	n := num.int((int(e.Kind)-1)*threads+behind, 0, int(api.Wake)*threads-1)
	e.Kind = uint8(n/threads) + 1
	e.Thread = (c.last + n) % threads
}

// begin passes a Begin's.
func (c *Coder) begin(e *api.Event, num number) {
	e.Tx = num.int(e.Tx, 0, api.MaxTx-1)
	e.V = c.clock + num.int(e.V-c.clock, 0, api.MaxClock-c.clock)
}

// look passes a Look's.
func (c *Coder) look(e *api.Event, num number) {
	c.stripe(e, num)
	begun := c.threads[e.Thread].begun
	e.V = begun - num.int(begun-e.V, 0, begun)
}

// value passes a Load's, and a Store's.
func (c *Coder) value(e *api.Event, num number) {
	e.At = num.int(e.At, 0, c.over.vars-1)
	last := c.values[e.At]
	e.X = last + varint.Zag(num(varint.Zig(e.X-last), 0, math.MaxUint64))
}

// stripe passes what has just that.
func (c *Coder) stripe(e *api.Event, num number) { e.At = num.int(e.At, 0, c.over.stripes-1) }

// bump passes a Bump's.
func (c *Coder) bump(e *api.Event, num number) {
	e.V = c.clock + num.int(e.V-c.clock, 1, api.MaxClock-c.clock)
}

// commit passes a Commit's: whether its V is that of the Bump, where there was one.
func (c *Coder) commit(e *api.Event, num number) {
	bumped := c.threads[e.Thread].bumped
	e.V = bumped * num.int(min(e.V, 1), 0, min(bumped, 1))
}

// abort passes an Abort's.
func (c *Coder) abort(e *api.Event, num number) {
	e.Why = uint8(num.int(int(e.Why)-1, 0, int(api.Full)-1)) + 1
	if e.Why != api.Full {
		c.stripe(e, num)
	}
}

// nothing passes what has nothing.
func (c *Coder) nothing(*api.Event, number) {}
