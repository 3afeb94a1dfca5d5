// Package config tells which configurations are right, and what follows from their numbers alone.
package config

import "walls/api"

// Check tells the first error of a configuration (P3). Each step may rely on those before it: so behind
// shapeRight no size is 0 that must not be, and behind slotsRight W is small.
func Check(c api.Config) api.Errno {
	if !shapeRight(c) {
		return api.ErrShape
	}
	if !waysRight(c) {
		return api.ErrWays
	}
	if !slotsRight(c) {
		return api.ErrSlots
	}
	if !turnsRight(c) {
		return api.ErrTurns
	}
	if !quantumRight(c) {
		return api.ErrQuantum
	}
	return api.OK
}

func shapeRight(c api.Config) bool {
	if !within(c.Cores, 1, api.MaxCores) {
		return false
	}
	if !within(c.Domains, 1, api.MaxDomains) {
		return false
	}
	if !oneTwoFour(c.Near) {
		return false
	}
	if !oneTwoFour(c.Sets) {
		return false
	}
	return wordsRight(c)
}

func wordsRight(c api.Config) bool {
	if !oneTwoFour(c.Line) {
		return false
	}
	if !within(c.Private, c.Line, api.MaxPrivate) {
		return false
	}
	if !within(c.Shared, 0, api.MaxShared) {
		return false
	}
	return c.Private%c.Line == 0 && c.Shared%c.Line == 0
}

func waysRight(c api.Config) bool {
	if !listRight(c.Ways, api.MaxWays, 0, c.Domains-1) {
		return false
	}
	for d := 0; d < c.Domains; d++ {
		owned := count(c.Ways, d)
		if !oneTwoFour(owned) {
			return false
		}
	}
	return true
}

func slotsRight(c api.Config) bool {
	if !within(c.Slot, 1, api.MaxSlot) {
		return false
	}
	if !listRight(c.Slots, api.MaxSlots, 0, c.Domains-1) {
		return false
	}
	for d := 0; d < c.Domains; d++ {
		if count(c.Slots, d) == 0 {
			return false
		}
	}
	return true
}

func turnsRight(c api.Config) bool {
	if len(c.Turns) != c.Cores {
		return false
	}
	for core := 0; core < len(c.Turns); core++ {
		if !listRight(c.Turns[core], api.MaxTurns, -1, c.Domains-1) {
			return false
		}
	}
	return true
}

func quantumRight(c api.Config) bool {
	if !within(c.Flush, c.Near, api.MaxFlush) {
		return false
	}
	least := Worst(c) + c.Flush + 1
	return within(c.Quantum, least, api.MaxQuantum)
}
