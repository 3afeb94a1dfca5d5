package config

import "walls/api"

// Worst is W of a configuration (P4). It means something only if Check answers OK,
// or, inside Check, once cores and slots were found right.
func Worst(c api.Config) int {
	return api.Steps * c.Cores * len(c.Slots) * c.Slot
}

// Enough tells how many cycles suffice for k operations of d at a core (P5).
func Enough(c api.Config, core int, d int, k int) (int, api.Errno) {
	e := Check(c)
	if e != api.OK {
		return 0, e
	}
	// Check has seen that there are just as many lists as cores.
	if core < 0 || core >= len(c.Turns) {
		return 0, api.ErrArg
	}
	// -1 may stand in the list, but is no domain.
	if !within(d, 0, c.Domains-1) {
		return 0, api.ErrArg
	}
	if !within(k, 0, api.MaxProgram) {
		return 0, api.ErrArg
	}
	list := c.Turns[core]
	if count(list, d) == 0 {
		return 0, api.ErrArg
	}
	// Check has seen that W is above 0 and that a turn has an open cycle, so both divisors are above 0.
	worst := Worst(c)
	perTurn := 1 + (c.Quantum-c.Flush-worst-1)/(worst+1)
	rounds := (k + perTurn - 1) / perTurn
	return rounds * len(list) * c.Quantum, api.OK
}
