package interp

import (
	"seesaw/api"
	"seesaw/expr"
)

// does is what a statement of a Kind does as a step. A Return is none.
func does(kind uint8) func(*Machine, api.Stmt) {
	kinds := [...]func(*Machine, api.Stmt){
		api.Set:    (*Machine).set,
		api.Read:   (*Machine).read,
		api.Write:  (*Machine).write,
		api.If:     (*Machine).either,
		api.Loop:   (*Machine).loop,
		api.Retry:  (*Machine).retry,
		api.OrElse: (*Machine).orElse,
	}
	return kinds[kind]
}

// value is what an expression comes to; in a transaction that may be each one does.
func (m *Machine) value(e api.Expr) int64 {
	x, _ := expr.Eval(e, m.locals[:], m.got)
	return x
}

// variable is the one that an expression means.
func (m *Machine) variable(e api.Expr) int {
	at, _ := expr.Variable(m.value(e), m.vars)
	return at
}

// set is a Set.
func (m *Machine) set(s api.Stmt) { m.locals[s.To] = m.value(s.A) }

// read is a Read of a variable that was written.
func (m *Machine) read(s api.Stmt) {
	x, _ := m.written.Get(m.variable(s.A))
	m.locals[s.To] = x
}

// write is a Write.
func (m *Machine) write(s api.Stmt) { m.written.Put(m.variable(s.A), m.value(s.B)) }

// either is an If.
func (m *Machine) either(s api.Stmt) {
	if m.value(s.A) != 0 {
		m.enter(frame{rest: s.Body})
	} else {
		m.enter(frame{rest: s.Else})
	}
}

// loop is a Loop: a block at its end, that has its turns still, of which there may be none.
func (m *Machine) loop(s api.Stmt) {
	turns := min(max(m.value(s.A), 0), api.MaxTurns)
	m.enter(frame{body: s.Body, turns: int(turns)})
}

// orElse is an OrElse.
func (m *Machine) orElse(s api.Stmt) {
	m.written.Push()
	m.enter(frame{rest: s.Body, kept: &kept{locals: m.locals, other: s.Else}})
}

// retry is a Retry within the Body of an OrElse.
func (m *Machine) retry(api.Stmt) {
	i := m.innermost()
	was := m.stack[i].kept
	m.written.Drop()
	m.locals = was.locals
	m.cut(i)
	m.enter(frame{rest: was.other})
}
