package config

import "walls/api"

// Copy gives the same configuration with lists of its own, so that it can be kept.
func Copy(c api.Config) api.Config {
	c.Ways = copyOf(c.Ways)
	c.Slots = copyOf(c.Slots)
	turns := make([][]int, len(c.Turns))
	for core := 0; core < len(c.Turns); core++ {
		turns[core] = copyOf(c.Turns[core])
	}
	c.Turns = turns
	return c
}

func copyOf(list []int) []int {
	fresh := make([]int, len(list))
	copy(fresh, list)
	return fresh
}

// WaysOf is the number of ways that a domain owns.
func WaysOf(c api.Config, d int) int {
	return count(c.Ways, d)
}
