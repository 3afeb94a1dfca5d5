// Package walls: a cache that tenants share without seeing one another: see DOC.md.
package walls

import (
	"walls/api"
	"walls/config"
	"walls/machine"
	"walls/ways"
)

// Check tells whether a configuration is right (P3).
func Check(c api.Config) api.Errno { return config.Check(c) }

// Worst tells how long an operation can take (P4).
func Worst(c api.Config) (int, api.Errno) {
	e := config.Check(c)
	if e != api.OK {
		return 0, e
	}
	return config.Worst(c), api.OK
}

// Enough tells how many cycles suffice for some operations (P5).
func Enough(c api.Config, core int, d int, k int) (int, api.Errno) {
	return config.Enough(c, core, d, k)
}

// Turn tells whose turn it is at a core in a cycle, and whether the cycle is open there (P6).
func Turn(c api.Config, core int, t int) (int, bool, api.Errno) {
	return config.Turn(c, core, t)
}

// Wait tells the next service cycle of a domain (P6).
func Wait(c api.Config, d int, t int) (int, api.Errno) {
	return config.Wait(c, d, t)
}

// Victim tells which of some ways gives way (P7).
func Victim(n int, touched []int) (int, api.Errno) {
	return ways.Victim(n, touched)
}

// Machine is a machine.
type Machine struct {
	inner machine.Machine
}

// New makes a machine (P8).
func New(c api.Config) (*Machine, api.Errno) {
	inner, e := machine.New(c)
	if e != api.OK {
		return nil, e
	}
	return &Machine{inner: inner}, api.OK
}

// Give lays down the program of a domain at a core (P9).
func (m *Machine) Give(d int, core int, ops []api.Op) api.Errno { return m.inner.Give(d, core, ops) }

// Fill lays down one of a domain's own words (P10).
func (m *Machine) Fill(d int, a int, v int) api.Errno { return m.inner.Fill(d, a, v) }

// Share lays down one of the shared words (P10).
func (m *Machine) Share(a int, v int) api.Errno { return m.inner.Share(a, v) }

// Run lets cycles go by (P11 to P13).
func (m *Machine) Run(n int) api.Errno { return m.inner.Run(n) }

// Now tells the time (P11).
func (m *Machine) Now() int { return m.inner.Now() }

// Trace tells what is done of a domain's operations (P14).
func (m *Machine) Trace(d int) ([]api.Event, api.Errno) { return m.inner.Trace(d) }

// Near tells what lies in a core's near cache (P15).
func (m *Machine) Near(core int) ([]api.Copy, api.Errno) { return m.inner.Near(core) }

// Far tells what lies in a domain's ways of the far cache (P15).
func (m *Machine) Far(d int) ([]api.Block, api.Errno) { return m.inner.Far(d) }

// Memory tells what stands in memory (P15).
func (m *Machine) Memory(d int, a int) (int, api.Errno) { return m.inner.Memory(d, a) }
