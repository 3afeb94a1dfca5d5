package walls

import (
	"math"

	"walls/api"
)

// confA and confB are the configurations of the document's examples.
func confA() api.Config {
	return api.Config{Cores: 1, Domains: 1, Line: 1, Private: 4, Shared: 2, Near: 1, Sets: 1,
		Ways: []int{0}, Slot: 1, Slots: []int{0}, Turns: [][]int{{0}}, Quantum: 10, Flush: 1}
}

func confB() api.Config {
	return api.Config{Cores: 2, Domains: 2, Line: 2, Private: 4, Shared: 2, Near: 2, Sets: 1,
		Ways: []int{0, 1, 0}, Slot: 2, Slots: []int{0, 1}, Turns: [][]int{{0}, {0, 1}}, Quantum: 40, Flush: 2}
}

// confMost has the greatest of everything: its W is 288.
func confMost() api.Config {
	return api.Config{Cores: 3, Domains: 4, Line: 4, Private: 64, Shared: 32, Near: 4, Sets: 4,
		Ways: []int{0, 1, 2, 3, 3, 2, 1, 0}, Slot: 4, Slots: []int{3, 3, 3, 3, 3, 2, 1, 0},
		Turns: [][]int{{0, 1, 2, 3}, {-1, -1, -1, -1}, {3, 3, -1, 3}}, Quantum: 2000, Flush: 16}
}

// extremes are numbers at which sums, products and divisions go wrong.
var extremes = []int{math.MinInt, math.MinInt + 1, math.MinInt / 3, -1 << 32, -3, -2, -1, 0, 1, 1 << 31, 1 << 32, 1 << 61, math.MaxInt / 3, math.MaxInt - 1, math.MaxInt}

// numbersOf points at every plain number of a configuration.
func numbersOf(c *api.Config) []*int {
	return []*int{&c.Cores, &c.Domains, &c.Line, &c.Private, &c.Shared, &c.Near, &c.Sets, &c.Slot, &c.Quantum, &c.Flush}
}

func repeated(n int, v int) []int {
	list := make([]int, n)
	for i := range list {
		list[i] = v
	}
	return list
}
