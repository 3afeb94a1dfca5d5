package machine

import (
	"walls/api"
	"walls/config"
	"walls/far"
)

// serve gives the first waiting request of the domain whose service cycle it is a service (P13),
// and tells the core at which that request is done now, or -1.
func (m *Machine) serve() int {
	d := config.Served(m.conf, m.now)
	if d < 0 || d >= len(m.domains) {
		return -1
	}
	if len(m.domains[d].waiting) == 0 {
		return -1
	}
	core := m.domains[d].waiting[0]
	op, some := m.next(d, core)
	if !some {
		return -1
	}
	x := m.lineOf(op)
	way := m.domains[d].far.Find(x)
	if way == far.Nothing {
		m.fetch(d, x)
		return -1
	}
	m.domains[d].waiting = m.domains[d].waiting[1:]
	m.domains[d].far.Touch(x, way)
	m.hand(d, core, op)
	value := m.perform(d, op)
	m.finish(core, value, api.NoFault)
	return core
}

// hand lays a copy of the operation's line into the near cache of its core.
func (m *Machine) hand(d int, core int, op api.Op) {
	x := m.lineOf(op)
	if op.Kind == api.Store {
		m.near.DropOthers(core, d, x)
		m.near.Put(core, d, x, api.Changed)
		return
	}
	others := m.near.ShareOthers(core, d, x)
	state := api.Alone
	if others || op.Addr >= m.conf.Private {
		state = api.Common
	}
	m.near.Put(core, d, x, state)
}

// fetch makes room for d's line x in the far cache, and fills it in if there is room already:
// writing to memory takes a service of its own.
func (m *Machine) fetch(d int, x int) {
	room := m.domains[d].far.Room(x)
	old := m.domains[d].far.At(x, room)
	if old.Line != far.Nothing {
		m.near.DropAll(d, old.Line)
	}
	if old.Marked {
		m.memory.Write(d, old.Line, old.Words)
		m.domains[d].far.Lay(x, room, far.Empty())
		return
	}
	words := m.memory.Read(d, x)
	m.domains[d].far.Lay(x, room, far.Block{Line: x, Words: words})
}
