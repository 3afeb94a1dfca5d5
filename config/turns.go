package config

import "walls/api"

// Turn tells to whom the turn of the cycle t belongs at a core (-1: nobody), and whether t is open there (P6).
func Turn(c api.Config, core int, t int) (int, bool, api.Errno) {
	e := Check(c)
	if e != api.OK {
		return 0, false, e
	}
	if !within(core, 0, c.Cores-1) {
		return 0, false, api.ErrArg
	}
	if !within(t, 0, api.MaxTime) {
		return 0, false, api.ErrArg
	}
	owner, open := Owner(c, core, t)
	return owner, open, api.OK
}

// Owner answers as Turn, but trusts that the configuration is right: a machine asks it in every cycle.
func Owner(c api.Config, core int, t int) (int, bool) {
	if core < 0 || core >= len(c.Turns) {
		return -1, false
	}
	list := c.Turns[core]
	if t < 0 || c.Quantum < 1 || len(list) == 0 {
		return -1, false
	}
	turn := t / c.Quantum
	place := t % c.Quantum
	owner := list[turn%len(list)]
	open := owner >= 0 && place < c.Quantum-c.Flush-Worst(c)
	return owner, open
}

// Flushes tells whether t is a flush cycle. It trusts that the configuration is right.
func Flushes(c api.Config, t int) bool {
	return t >= 0 && c.Quantum >= 1 && t%c.Quantum == c.Quantum-c.Flush
}
