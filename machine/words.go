package machine

import "walls/api"

// faultOf tells what is wrong with an operation.
func (m *Machine) faultOf(op api.Op) int {
	if op.Addr < 0 || op.Addr >= m.conf.Private+m.conf.Shared {
		return api.FaultRange
	}
	if op.Kind == api.Store && op.Addr >= m.conf.Private {
		return api.FaultStore
	}
	return api.NoFault
}

// lineOf is the line of an operation that is no fault.
func (m *Machine) lineOf(op api.Op) int {
	if m.conf.Line < 1 {
		return 0
	}
	return op.Addr / m.conf.Line
}

// perform loads or stores the word of an operation whose line lies in the far cache, and gives the word's value.
// The near caches have no words of their own, so there is but one place where a word can be changed.
func (m *Machine) perform(d int, op api.Op) int {
	x := m.lineOf(op)
	place := op.Addr - x*m.conf.Line
	way := m.domains[d].far.Find(x)
	block := m.domains[d].far.At(x, way)
	if place < 0 || place >= len(block.Words) {
		return 0
	}
	if op.Kind == api.Load {
		return block.Words[place]
	}
	block.Words[place] = op.Val
	block.Marked = true
	m.domains[d].far.Lay(x, way, block)
	return op.Val
}
