package interp

import (
	"slices"

	"seesaw/api"
)

// frame is a block, as far as it is not done, and what there is to do at its end.
type frame struct {
	rest  []api.Stmt
	body  []api.Stmt // of a Loop: what is next anew
	turns int        // so often
	kept  *kept      // of an OrElse's Body: how things were; else none
}

// kept is how things were at an OrElse. It is never changed, so that copies share it.
type kept struct {
	locals [api.MaxLocals]int64
	other  []api.Stmt // its Else
}

// top is the innermost block.
func (m *Machine) top() *frame { return &m.stack[len(m.stack)-1] }

// enter has a block be the innermost one.
func (m *Machine) enter(f frame) { m.stack = append(m.stack, f) }

// cut has only so many blocks be left, the outermost ones.
func (m *Machine) cut(left int) {
	// Delete leaves nothing behind the end, where a block that was left would be kept.
	m.stack = slices.Delete(m.stack, left, len(m.stack))
}

// take is the next statement, which is done from now on.
func (m *Machine) take() api.Stmt {
	f := m.top()
	s := f.rest[0]
	f.rest = f.rest[1:]
	m.steps++
	return s
}

// leave goes on to the next statement: blocks that are at their end are begun anew, or left.
func (m *Machine) leave() {
	for len(m.stack) > 0 && len(m.top().rest) == 0 {
		f := m.top()
		if f.turns > 0 {
			f.rest = f.body
			f.turns--
			continue
		}
		if f.kept != nil {
			m.written.Merge()
		}
		m.cut(len(m.stack) - 1)
	}
}

// innermost is which block is the Body of the innermost OrElse, -1 if none is.
func (m *Machine) innermost() int {
	for i, f := range slices.Backward(m.stack) {
		if f.kept != nil {
			return i
		}
	}
	return -1
}
