package config

import "walls/api"

// Wait tells the least service cycle of d that is t or more (P6). It may lie behind MaxTime.
func Wait(c api.Config, d int, t int) (int, api.Errno) {
	e := Check(c)
	if e != api.OK {
		return 0, e
	}
	if !within(d, 0, c.Domains-1) {
		return 0, api.ErrArg
	}
	if !within(t, 0, api.MaxTime) {
		return 0, api.ErrArg
	}
	// Check has seen that Slot is above 0 and that d owns a slot of the table,
	// so when all slots of one round but the last were passed, the last is d's.
	k := t / c.Slot
	for passed := 1; passed < len(c.Slots); passed++ {
		if c.Slots[k%len(c.Slots)] == d {
			break
		}
		k++
	}
	return k*c.Slot + c.Slot - 1, api.OK
}

// Served is the domain of which t is a service cycle, or -1. It trusts that the configuration is right.
func Served(c api.Config, t int) int {
	if t < 0 || c.Slot < 1 || len(c.Slots) == 0 {
		return -1
	}
	if t%c.Slot != c.Slot-1 {
		return -1
	}
	slot := t / c.Slot
	return c.Slots[slot%len(c.Slots)]
}
