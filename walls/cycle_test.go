package walls

import (
	"testing"

	"walls/api"
)

// confTwo has two cores of one domain, each cycle a service cycle; the places 0 to 31 are open.
func confTwo() api.Config {
	return api.Config{Cores: 2, Domains: 1, Line: 1, Private: 4, Shared: 2, Near: 2, Sets: 1,
		Ways: []int{0, 0}, Slot: 1, Slots: []int{0}, Turns: [][]int{{0}, {0}}, Quantum: 40, Flush: 2}
}

// played runs the programs of domain 0 and holds its trace against what it must be.
func played(t *testing.T, c api.Config, n int, ops [][]api.Op, want ...api.Event) {
	t.Helper()
	m := built(t, c)
	for core := range ops {
		fine(t, m.Give(0, core, ops[core]))
	}
	fine(t, m.Run(n))
	traced(t, m, 0, want...)
}

// The near cache is emptied in the cycle 9, but the far cache is not: so the last Load takes one service.
func TestP12Flush(t *testing.T) {
	played(t, confA(), 30, [][]api.Op{{load(0), load(0), store(0, 4), load(0), load(0), load(0)}},
		event(0, 0, 0, 0, 0, 2), event(0, 1, 0, 0, 3, 3), event(0, 2, 4, 0, 4, 4), event(0, 3, 4, 0, 5, 5),
		event(0, 4, 4, 0, 10, 11), event(0, 5, 4, 0, 12, 12))
	// A fault that was begun in the last open cycle ends behind it.
	played(t, confA(), 30, [][]api.Op{{load(0), load(6), load(0)}},
		event(0, 0, 0, 0, 0, 2), event(0, 1, 0, 1, 3, 5), event(0, 2, 0, 0, 10, 11))
	least := confA()
	least.Quantum = 5
	played(t, least, 15, [][]api.Op{{load(0), load(0), load(1), load(0)}},
		event(0, 0, 0, 0, 0, 2), event(0, 1, 0, 0, 5, 6), event(0, 2, 0, 0, 10, 12))
}

// At a core whose turn is nobody's nothing begins, and a domain goes on where it was.
func TestP12Turns(t *testing.T) {
	c := confA()
	c.Turns = [][]int{{-1, 0, -1, -1}}
	played(t, c, 100, [][]api.Op{{load(0), load(1), load(2), load(2)}},
		event(0, 0, 0, 0, 10, 12), event(0, 1, 0, 0, 13, 15), event(0, 2, 0, 0, 50, 52), event(0, 3, 0, 0, 53, 53))
}

// What is done by a service comes before what the cores do in the same cycle, and holds for them already.
func TestP12Order(t *testing.T) {
	played(t, confTwo(), 20, [][]api.Op{
		{load(0), load(0), load(0), load(0)},
		{load(0), store(0, 5), load(0), store(0, 9)}},
		event(0, 0, 0, 0, 0, 2), event(1, 0, 0, 0, 0, 3), event(0, 1, 0, 0, 3, 3), event(0, 2, 0, 0, 4, 4),
		event(1, 1, 5, 0, 4, 5), event(0, 3, 5, 0, 5, 6), event(1, 2, 5, 0, 6, 6), event(1, 3, 9, 0, 7, 8))
	c := confB()
	c.Turns = [][]int{{0}, {0}}
	played(t, c, 20, [][]api.Op{{load(-1), store(4, 1), load(0)}, {load(0), store(6, 1)}},
		event(0, 0, 0, 1, 0, 2), event(1, 0, 0, 0, 0, 5), event(0, 1, 0, 2, 3, 5), event(1, 1, 0, 1, 6, 8), event(0, 2, 0, 0, 6, 9))
	played(t, c, 20, [][]api.Op{{load(-1)}, {store(5, 1)}},
		event(0, 0, 0, 1, 0, 2), event(1, 0, 0, 2, 0, 2))
}

// A line that gives way in the far cache goes from the near caches of all cores.
func TestP13GivesWay(t *testing.T) {
	c := confTwo()
	c.Ways = []int{0}
	played(t, c, 20, [][]api.Op{{load(0), load(0)}, {load(1)}},
		event(0, 0, 0, 0, 0, 2), event(1, 0, 0, 0, 0, 4), event(0, 1, 0, 0, 3, 6))
}

// A line that is pushed out of the near cache lies in the far cache still.
func TestP13Place(t *testing.T) {
	c := confA()
	c.Quantum, c.Ways = 100, []int{0, 0}
	ops := [][]api.Op{{store(0, 3), load(1), load(0), load(1)}}
	played(t, c, 50, ops, event(0, 0, 3, 0, 0, 2), event(0, 1, 0, 0, 3, 5), event(0, 2, 3, 0, 6, 7), event(0, 3, 0, 0, 8, 9))
	c.Near, c.Flush = 2, 2
	played(t, c, 50, ops, event(0, 0, 3, 0, 0, 2), event(0, 1, 0, 0, 3, 5), event(0, 2, 3, 0, 6, 6), event(0, 3, 0, 0, 7, 7))
}

// Of four ways the victim is found by all touches: behind 0 1 2 3 0 it is 2, then 1. A Load that the near cache
// suffices for touches nothing.
func TestP13Victim(t *testing.T) {
	c := confA()
	c.Quantum, c.Ways, c.Private = 200, []int{0, 0, 0, 0}, 8
	played(t, c, 100, [][]api.Op{{load(0), load(1), load(2), load(3), load(0), load(4), load(5), load(0), load(3), load(3), load(1), load(2)}},
		event(0, 0, 0, 0, 0, 2), event(0, 1, 0, 0, 3, 5), event(0, 2, 0, 0, 6, 8), event(0, 3, 0, 0, 9, 11),
		event(0, 4, 0, 0, 12, 13), event(0, 5, 0, 0, 14, 16), event(0, 6, 0, 0, 17, 19), event(0, 7, 0, 0, 20, 21),
		event(0, 8, 0, 0, 22, 23), event(0, 9, 0, 0, 24, 24), event(0, 10, 0, 0, 25, 27), event(0, 11, 0, 0, 28, 30))
}

// Stored words come back from memory: all those of the line, each at its place.
func TestP13Memory(t *testing.T) {
	c := confA()
	c.Line, c.Private, c.Shared, c.Quantum = 4, 8, 0, 200
	played(t, c, 100, [][]api.Op{{store(1, 11), store(3, 13), load(4), store(6, 26), load(1), load(3), load(0), store(2, 12), load(6), load(4), load(2)}},
		event(0, 0, 11, 0, 0, 2), event(0, 1, 13, 0, 3, 3), event(0, 2, 0, 0, 4, 7), event(0, 3, 26, 0, 8, 8),
		event(0, 4, 11, 0, 9, 12), event(0, 5, 13, 0, 13, 13), event(0, 6, 0, 0, 14, 14), event(0, 7, 12, 0, 15, 15),
		event(0, 8, 26, 0, 16, 19), event(0, 9, 0, 0, 20, 20), event(0, 10, 12, 0, 21, 23))
}

// Three cores store to lines that push out one another: the last of them waits for W cycles, to the very last one.
func TestP16Worst(t *testing.T) {
	c := api.Config{Cores: 3, Domains: 2, Line: 1, Private: 4, Near: 1, Sets: 1, Ways: []int{0, 1},
		Slot: 1, Slots: []int{0, 1}, Turns: [][]int{{0}, {0}, {0}}, Quantum: 20, Flush: 1}
	w, e := Worst(c)
	if w != 18 || e != api.OK {
		t.Fatalf("P4: Worst = %d, %d", w, e)
	}
	ops := [][]api.Op{{store(0, 1), store(0, 4)}, {store(1, 2), store(1, 5)}, {store(2, 3), store(2, 6)}}
	played(t, c, 39, ops, event(0, 0, 1, 0, 0, 4), event(1, 0, 2, 0, 0, 10), event(2, 0, 3, 0, 0, 16),
		event(0, 1, 4, 0, 20, 26), event(1, 1, 5, 0, 20, 32), event(2, 1, 6, 0, 20, 38))
}
