package machine

import (
	"walls/api"
	"walls/config"
)

// cycle plays the cycle now (P12).
func (m *Machine) cycle() {
	if config.Flushes(m.conf, m.now) {
		m.near.Empty()
	}
	served := m.serve()
	for core := 0; core < len(m.cores); core++ {
		m.step(core, served)
	}
}

// step is a core's part of a cycle. At the core served an operation was done in this cycle already.
func (m *Machine) step(core int, served int) {
	if m.cores[core].busy {
		m.endFault(core)
		return
	}
	if core == served {
		return
	}
	d, open := config.Owner(m.conf, core, m.now)
	if !open {
		return
	}
	op, some := m.next(d, core)
	if some {
		m.begin(d, core, op)
	}
}

// next is the operation that comes next in d's program at a core, or that is under way there.
func (m *Machine) next(d int, core int) (api.Op, bool) {
	if d < 0 || d >= len(m.domains) {
		return api.Op{}, false
	}
	if core < 0 || core >= len(m.domains[d].programs) {
		return api.Op{}, false
	}
	p := m.domains[d].programs[core]
	if p.done < 0 || p.done >= len(p.ops) {
		return api.Op{}, false
	}
	return p.ops[p.done], true
}

func (m *Machine) begin(d int, core int, op api.Op) {
	m.cores[core] = work{busy: true, domain: d, issue: m.now}
	if m.faultOf(op) != api.NoFault {
		return // endFault will end it
	}
	x := m.lineOf(op)
	state := m.near.State(core, d, x)
	if !suffices(op, state) {
		m.domains[d].waiting = append(m.domains[d].waiting, core)
		return
	}
	if op.Kind == api.Store {
		m.near.Put(core, d, x, api.Changed)
	}
	value := m.perform(d, op)
	m.finish(core, value, api.NoFault)
}

// suffices tells whether a near copy in this state is enough for an operation.
func suffices(op api.Op, state int) bool {
	if op.Kind == api.Load {
		return state != api.None
	}
	return state == api.Alone || state == api.Changed
}

// endFault ends the operation under way at a core, if it is a fault whose time is over.
func (m *Machine) endFault(core int) {
	op, some := m.next(m.cores[core].domain, core)
	if !some {
		return
	}
	fault := m.faultOf(op)
	if fault == api.NoFault {
		return
	}
	if m.now >= m.cores[core].issue+api.FaultTime-1 {
		m.finish(core, 0, fault)
	}
}

// finish writes the operation under way at a core into the trace of its domain.
func (m *Machine) finish(core int, value int, fault int) {
	d := m.cores[core].domain // begin was told it by next, so it is a domain
	event := api.Event{Core: core, Value: value, Fault: fault, Issue: m.cores[core].issue, Done: m.now}
	event.Index = m.domains[d].programs[core].done
	m.domains[d].trace = append(m.domains[d].trace, event)
	m.domains[d].programs[core].done++
	m.cores[core].busy = false
}
