package config

import "walls/api"

// Turn tells to whom the turn of the cycle t belongs at a core (-1: nobody), and whether t is open there (P6).
func Turn(c api.Config, core int, t int) (int, bool, api.Errno) {
	e := Check(c)
	if e != api.OK {
		return 0, false, e
	}
	// Check has seen that there are just as many lists as cores.
	if core < 0 || core >= len(c.Turns) {
		return 0, false, api.ErrArg
	}
	if !within(t, 0, api.MaxTime) {
		return 0, false, api.ErrArg
	}
	// Check has seen that Quantum is above 0 and that no list is empty.
	list := c.Turns[core]
	turn := t / c.Quantum
	place := t % c.Quantum
	owner := list[turn%len(list)]
	open := owner >= 0 && place < c.Quantum-c.Flush-Worst(c)
	return owner, open, api.OK
}
