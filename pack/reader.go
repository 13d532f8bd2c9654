package pack

import (
	"seesaw/api"
	"seesaw/bytes"
)

// reader reads the parts of a setup. What is wrong first is kept by the Reader in it: from there on each number is 0, and nothing is read any more.
type reader struct {
	*bytes.Reader
	stmts int // of the transaction that is read, so far
}

// num reads a number from least, which is 0 or 1, to most.
func (r *reader) num(least, most int) int {
	at := r.At()
	n, _ := r.Num(uint64(most))
	if int(n) < least {
		r.Fail(at, api.ErrRange)
	}
	return int(n)
}

// nested reads such a number of something that is so deep: too deep, and it must be 0.
func (r *reader) nested(least, most, deep int) int {
	at := r.At()
	n := r.num(least, most)
	if n > 0 && deep > api.MaxNest {
		r.Fail(at, api.ErrTooLarge)
		return 0
	}
	return n
}

// setup reads a setup's body.
func (r *reader) setup() api.Setup {
	var s api.Setup
	for range r.num(1, api.MaxVars) {
		x, _ := r.Int()
		s.Init = append(s.Init, x)
	}
	s.Stripes = r.num(1, len(s.Init))
	s.Clock = r.num(0, api.MaxClock)
	s.Tries = r.num(1, api.MaxTries)
	for range r.num(0, api.MaxThreads) {
		s.Threads = append(s.Threads, r.thread())
	}
	return s
}

// thread reads a thread's transactions.
func (r *reader) thread() [][]api.Stmt {
	var l [][]api.Stmt
	for range r.num(0, api.MaxTx) {
		r.stmts = 0
		l = append(l, r.block(1))
	}
	return l
}

// block reads a block that is so deep.
func (r *reader) block(deep int) []api.Stmt {
	var l []api.Stmt
	for range r.nested(0, api.MaxStmts, deep) {
		r.stmts++
		// One too many is enough for the transaction not to be: what is behind is read, but not kept, or short texts would make far greater setups.
		kept := r.stmts <= api.MaxStmts+1
		if s := r.stmt(deep); kept {
			l = append(l, s)
		}
	}
	return l
}

// stmt reads a statement of a block that is so deep.
func (r *reader) stmt(deep int) api.Stmt {
	s := api.Stmt{Kind: uint8(r.num(1, int(api.Return)))}
	for _, part := range parts[s.Kind] {
		switch part {
		case 'T':
			s.To = r.num(0, api.MaxLocals-1)
		case 'A':
			s.A = r.expr(1)
		case 'B':
			s.B = r.expr(1)
		case 'b':
			s.Body = r.block(deep + 1)
		case 'e':
			s.Else = r.block(deep + 1)
		}
	}
	return s
}

// expr reads an expression that is so deep.
func (r *reader) expr(deep int) api.Expr {
	e := api.Expr{Op: uint8(r.nested(1, int(api.Equal), deep))}
	switch e.Op {
	case 0: // something was wrong
	case api.Lit:
		e.N, _ = r.Int()
	case api.Local:
		e.N = int64(r.num(0, api.MaxLocals-1))
	case api.Got:
		e.N = int64(r.num(0, api.MaxTx-1))
	default:
		e.Args = []api.Expr{r.expr(deep + 1), r.expr(deep + 1)}
	}
	return e
}
