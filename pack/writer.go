package pack

import (
	"seesaw/api"
	"seesaw/bytes"
)

// writer writes the parts of a setup that may be.
type writer struct{ *bytes.Writer }

// num writes a number that is not below 0.
func (w writer) num(n int) { w.Num(uint64(n)) }

// setup writes a setup's body.
func (w writer) setup(s api.Setup) {
	w.num(len(s.Init))
	for _, x := range s.Init {
		w.Int(x)
	}
	w.num(s.Stripes)
	w.num(s.Clock)
	w.num(s.Tries)
	w.num(len(s.Threads))
	for _, thread := range s.Threads {
		w.num(len(thread))
		for _, tx := range thread {
			w.block(tx)
		}
	}
}

// block writes a block.
func (w writer) block(l []api.Stmt) {
	w.num(len(l))
	for _, s := range l {
		w.stmt(s)
	}
}

// stmt writes a statement.
func (w writer) stmt(s api.Stmt) {
	w.num(int(s.Kind))
	for _, part := range parts[s.Kind] {
		switch part {
		case 'T':
			w.num(s.To)
		case 'A':
			w.expr(s.A)
		case 'B':
			w.expr(s.B)
		case 'b':
			w.block(s.Body)
		case 'e':
			w.block(s.Else)
		}
	}
}

// expr writes an expression.
func (w writer) expr(e api.Expr) {
	w.num(int(e.Op))
	switch e.Op {
	case api.Lit:
		w.Int(e.N)
	case api.Local, api.Got:
		w.num(int(e.N))
	}
	for _, a := range e.Args {
		w.expr(a)
	}
}
