// Package machine plays a machine, cycle by cycle.
package machine

import (
	"walls/api"
	"walls/config"
	"walls/far"
	"walls/memory"
	"walls/near"
)

// Machine is a machine. Its configuration is right: New has seen to it.
type Machine struct {
	conf    api.Config
	now     int
	memory  memory.Memory
	near    near.Caches
	domains []domain
	cores   []work
}

// A domain is all that belongs to one domain alone, but for its copies in the near caches.
type domain struct {
	programs []program // of each core
	far      far.Cache
	waiting  []int // the cores at which requests wait, in the order of the requests
	trace    []api.Event
}

// A program goes on at the operation with the number done: it is the next one, or the one under way.
type program struct {
	ops  []api.Op
	done int
}

// work tells whether an operation is under way at a core, of which domain, and when it began.
type work struct {
	busy   bool
	domain int
	issue  int
}

// New makes a machine (P8).
func New(c api.Config) (Machine, api.Errno) {
	e := config.Check(c)
	if e != api.OK {
		return Machine{}, e
	}
	m := Machine{conf: config.Copy(c)}
	m.memory = memory.New(c)
	m.near = near.New(c.Cores, c.Near)
	m.cores = make([]work, c.Cores)
	for d := 0; d < c.Domains; d++ {
		owned := config.WaysOf(c, d)
		fresh := domain{far: far.New(c.Sets, owned)}
		fresh.programs = make([]program, c.Cores)
		m.domains = append(m.domains, fresh)
	}
	return m, api.OK
}

// Give lays down the program of a domain at a core (P9).
func (m *Machine) Give(d int, core int, ops []api.Op) api.Errno {
	if d < 0 || d >= len(m.domains) {
		return api.ErrArg
	}
	if core < 0 || core >= len(m.domains[d].programs) {
		return api.ErrArg
	}
	if m.now > 0 {
		return api.ErrBegun
	}
	if !opsRight(ops) {
		return api.ErrOps
	}
	fresh := make([]api.Op, len(ops))
	copy(fresh, ops)
	m.domains[d].programs[core] = program{ops: fresh}
	return api.OK
}

// opsRight looks at the length first, so that a list of any length is looked through only if it is short.
func opsRight(ops []api.Op) bool {
	if len(ops) > api.MaxProgram {
		return false
	}
	for i := 0; i < len(ops); i++ {
		if ops[i].Kind != api.Load && ops[i].Kind != api.Store {
			return false
		}
	}
	return true
}

// Fill lays down one of a domain's own words (P10).
func (m *Machine) Fill(d int, a int, v int) api.Errno {
	if d < 0 || d >= m.conf.Domains {
		return api.ErrArg
	}
	if a < 0 || a >= m.conf.Private {
		return api.ErrArg
	}
	if m.now > 0 {
		return api.ErrBegun
	}
	m.memory.Fill(d, a, v)
	return api.OK
}

// Share lays down one of the shared words (P10).
func (m *Machine) Share(a int, v int) api.Errno {
	if a < 0 || a >= m.conf.Shared {
		return api.ErrArg
	}
	if m.now > 0 {
		return api.ErrBegun
	}
	m.memory.Share(a, v)
	return api.OK
}

// Run lets n cycles go by (P11).
func (m *Machine) Run(n int) api.Errno {
	if n < 0 {
		return api.ErrArg
	}
	// Not now + n: that sum could be greater than an int can be.
	if n > api.MaxTime-m.now {
		return api.ErrTime
	}
	for i := 0; i < n; i++ {
		m.cycle()
		m.now++
	}
	return api.OK
}

// Now is the number of cycles that have gone by (P11).
func (m *Machine) Now() int { return m.now }

// Trace tells which operations of a domain are done, in their order (P14).
func (m *Machine) Trace(d int) ([]api.Event, api.Errno) {
	if d < 0 || d >= len(m.domains) {
		return nil, api.ErrArg
	}
	events := make([]api.Event, len(m.domains[d].trace))
	copy(events, m.domains[d].trace)
	return events, api.OK
}

// Near tells what lies in a core's near cache, place by place (P15).
func (m *Machine) Near(core int) ([]api.Copy, api.Errno) {
	if core < 0 || core >= m.conf.Cores {
		return nil, api.ErrArg
	}
	return m.near.Copies(core), api.OK
}

// Far tells what lies in a domain's ways of the far cache (P15).
func (m *Machine) Far(d int) ([]api.Block, api.Errno) {
	if d < 0 || d >= len(m.domains) {
		return nil, api.ErrArg
	}
	return m.domains[d].far.Blocks(), api.OK
}

// Memory tells what stands in memory, which may be older than what lies in the caches (P15).
func (m *Machine) Memory(d int, a int) (int, api.Errno) {
	if d < 0 || d >= m.conf.Domains {
		return 0, api.ErrArg
	}
	if a < 0 || a >= m.conf.Private+m.conf.Shared {
		return 0, api.ErrArg
	}
	return m.memory.Word(d, a), api.OK
}
