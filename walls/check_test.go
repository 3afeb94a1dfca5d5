package walls

import (
	"fmt"
	"math/rand"
	"testing"

	"walls/api"
)

// A checkCase is a configuration with one thing changed, and what Check answers to it.
type checkCase struct {
	name string
	base func() api.Config
	f    func(c *api.Config)
	e    api.Errno
}

func runCases(t *testing.T, cases []checkCase) {
	t.Helper()
	for _, k := range cases {
		c := k.base()
		k.f(&c)
		if e := Check(c); e != k.e {
			t.Errorf("P3: %s: Check = %d, want %d", k.name, e, k.e)
		}
	}
}

func TestErrorNumbers(t *testing.T) {
	for i, e := range []api.Errno{api.OK, api.ErrShape, api.ErrWays, api.ErrSlots, api.ErrTurns, api.ErrQuantum, api.ErrArg, api.ErrBegun, api.ErrOps, api.ErrTime} {
		if int(e) != i {
			t.Errorf("the error number %d is %d", i, e)
		}
	}
}

func TestP3Right(t *testing.T) {
	for i, c := range []api.Config{confA(), confB(), confMost()} {
		if e := Check(c); e != api.OK {
			t.Errorf("P3: Check of configuration %d = %d, want OK", i, e)
		}
	}
}

func TestP3Examples(t *testing.T) {
	runCases(t, []checkCase{
		{"A with Quantum 4", confA, func(c *api.Config) { c.Quantum = 4 }, api.ErrQuantum},
		{"A with Line 3", confA, func(c *api.Config) { c.Line = 3 }, api.ErrShape},
		{"A with Ways [0 0 0]", confA, func(c *api.Config) { c.Ways = []int{0, 0, 0} }, api.ErrWays},
		{"A with Slots [0 1]", confA, func(c *api.Config) { c.Slots = []int{0, 1} }, api.ErrSlots},
		{"A with Turns [[]]", confA, func(c *api.Config) { c.Turns = [][]int{{}} }, api.ErrTurns},
	})
}

// Every number of the shape, swept over its bounds: all else is right for each of the values.
func TestP3Shape(t *testing.T) {
	set := func(name string, base func() api.Config, at func(c *api.Config) *int, right []int, from, to int) {
		is := map[int]bool{}
		for _, v := range right {
			is[v] = true
		}
		values := append([]int{}, extremes...)
		for v := from; v <= to; v++ {
			values = append(values, v)
		}
		for _, v := range values {
			want := api.ErrShape
			if is[v] {
				want = api.OK
			}
			c := base()
			*at(&c) = v
			if name == "Cores" && is[v] {
				c.Turns = c.Turns[:v]
			}
			if e := Check(c); e != want {
				t.Errorf("P3: %s %d: Check = %d, want %d", name, v, e, want)
			}
		}
	}
	with := func(f func(c *api.Config)) func() api.Config {
		return func() api.Config { c := confMost(); f(&c); return c }
	}
	lone := with(func(c *api.Config) {
		c.Domains, c.Ways, c.Slots = 1, []int{0, 0, 0, 0}, []int{0}
		c.Turns = [][]int{{0}, {0}, {0}}
	})
	set("Cores", lone, func(c *api.Config) *int { return &c.Cores }, []int{1, 2, 3}, -3, 9)
	set("Line", confMost, func(c *api.Config) *int { return &c.Line }, []int{1, 2, 4}, -9, 70)
	set("Near", confMost, func(c *api.Config) *int { return &c.Near }, []int{1, 2, 4}, -9, 70)
	set("Sets", confMost, func(c *api.Config) *int { return &c.Sets }, []int{1, 2, 4}, -9, 70)
	for _, line := range []int{1, 2, 4} {
		var private, shared []int
		for v := 0; v <= 64; v += line {
			if v > 0 {
				private = append(private, v)
			}
			if v <= 32 {
				shared = append(shared, v)
			}
		}
		lined := with(func(c *api.Config) { c.Line = line })
		set(fmt.Sprint("with Line ", line, ": Private"), lined, func(c *api.Config) *int { return &c.Private }, private, -9, 140)
		set(fmt.Sprint("with Line ", line, ": Shared"), lined, func(c *api.Config) *int { return &c.Shared }, shared, -9, 140)
	}
}

func TestP3Domains(t *testing.T) {
	for n := -2; n <= 8; n++ {
		c := confMost()
		c.Domains, c.Ways, c.Slots = n, nil, nil
		c.Turns = [][]int{{-1}, {-1}, {-1}}
		for d := 0; d < n; d++ {
			c.Ways, c.Slots = append(c.Ways, d), append(c.Slots, d)
		}
		want := api.ErrShape
		if n >= 1 && n <= 4 {
			want = api.OK
		}
		if e := Check(c); e != want {
			t.Errorf("P3: Domains %d: Check = %d, want %d", n, e, want)
		}
	}
}

func TestP3Ways(t *testing.T) {
	ways := func(w ...int) func(c *api.Config) { return func(c *api.Config) { c.Ways = w } }
	runCases(t, []checkCase{
		{"none", confA, ways(), api.ErrWays},
		{"one", confA, ways(0), api.OK},
		{"two", confA, ways(0, 0), api.OK},
		{"three", confA, ways(0, 0, 0), api.ErrWays},
		{"four", confA, ways(0, 0, 0, 0), api.OK},
		{"five", confA, ways(repeated(5, 0)...), api.ErrWays},
		{"eight of one domain", confA, ways(repeated(8, 0)...), api.ErrWays},
		{"very many", confA, ways(repeated(100000, 0)...), api.ErrWays},
		{"four and four", confB, ways(1, 0, 0, 1, 1, 1, 0, 0), api.OK},
		{"four and one", confB, ways(0, 0, 1, 0, 0), api.OK},
		{"nine", confB, ways(1, 0, 0, 1, 1, 1, 0, 0, 0), api.ErrWays},
		{"three of the last domain", confB, ways(0, 1, 1, 1), api.ErrWays},
		{"none of the first domain", confB, ways(1, 1), api.ErrWays},
		{"none of the last domain", confB, ways(0, 0), api.ErrWays},
		{"no domain's number behind right ones", confB, ways(0, 1, 2), api.ErrWays},
		{"no domain's number first", confB, ways(-1, 0, 1), api.ErrWays},
		{"the least number", confB, ways(0, -1<<63, 1), api.ErrWays},
		{"the greatest number", confB, ways(0, 1<<63-1, 1), api.ErrWays},
		{"one for each of four, and more", confMost, ways(3, 2, 1, 0, 0, 0, 0), api.OK},
	})
	nine := confMost()
	nine.Ways = []int{0, 0, 0, 0, 1, 1, 2, 2, 3}
	if e := Check(nine); e != api.ErrWays {
		t.Errorf("P3: nine ways, each domain with 1, 2 or 4: Check = %d", e)
	}
}

func TestP3Slots(t *testing.T) {
	slots := func(s ...int) func(c *api.Config) {
		return func(c *api.Config) { c.Slots, c.Quantum = s, 2000 }
	}
	slot := func(n int) func(c *api.Config) { return func(c *api.Config) { c.Slot, c.Quantum = n, 2000 } }
	runCases(t, []checkCase{
		{"Slot 0", confB, slot(0), api.ErrSlots},
		{"Slot 1", confB, slot(1), api.OK},
		{"Slot 3", confB, slot(3), api.OK},
		{"Slot 4", confB, slot(4), api.OK},
		{"Slot 5", confB, slot(5), api.ErrSlots},
		{"Slot -1", confB, slot(-1), api.ErrSlots},
		{"the least Slot", confB, slot(-1 << 63), api.ErrSlots},
		{"the greatest Slot", confB, slot(1<<63 - 1), api.ErrSlots},
		{"no slots", confB, slots(), api.ErrSlots},
		{"one slot for one", confA, slots(0), api.OK},
		{"eight slots", confB, slots(1, 1, 1, 1, 1, 1, 1, 0), api.OK},
		{"nine slots", confB, slots(1, 1, 1, 1, 1, 1, 1, 1, 0), api.ErrSlots},
		{"very many slots", confA, slots(repeated(100000, 0)...), api.ErrSlots},
		{"none of the first domain", confB, slots(1, 1), api.ErrSlots},
		{"none of the last domain", confB, slots(0, 0), api.ErrSlots},
		{"none of a domain between", confMost, slots(0, 1, 3, 3), api.ErrSlots},
		{"three of a domain", confB, slots(0, 0, 0, 1), api.OK},
		{"nobody's slot", confB, slots(0, 1, -1), api.ErrSlots},
		{"no domain's number", confB, slots(2, 0, 1), api.ErrSlots},
		{"the greatest number", confB, slots(0, 1, 1<<63-1), api.ErrSlots},
	})
}

func TestP3Turns(t *testing.T) {
	turns := func(l ...[]int) func(c *api.Config) { return func(c *api.Config) { c.Turns = l } }
	runCases(t, []checkCase{
		{"no lists", confB, turns(), api.ErrTurns},
		{"too few lists", confB, turns([]int{0}), api.ErrTurns},
		{"too many lists", confB, turns([]int{0}, []int{1}, []int{0}), api.ErrTurns},
		{"very many lists", confB, turns(make([][]int, 100000)...), api.ErrTurns},
		{"a first list that is nil", confB, turns(nil, []int{0}), api.ErrTurns},
		{"a last list that is empty", confB, turns([]int{0}, []int{}), api.ErrTurns},
		{"four turns", confB, turns([]int{0, 1, 0, 1}, []int{1, -1, 1, -1}), api.OK},
		{"five turns", confB, turns([]int{0}, []int{0, 1, 0, 1, 0}), api.ErrTurns},
		{"very many turns", confB, turns(repeated(100000, 0), []int{0}), api.ErrTurns},
		{"nobody anywhere", confB, turns([]int{-1}, []int{-1, -1}), api.OK},
		{"a domain at both cores, the other at none", confB, turns([]int{0}, []int{0, 0}), api.OK},
		{"-2", confB, turns([]int{0, -2}, []int{1}), api.ErrTurns},
		{"no domain's number", confB, turns([]int{0}, []int{1, 2}), api.ErrTurns},
		{"the least number", confB, turns([]int{0}, []int{-1 << 63}), api.ErrTurns},
		{"the greatest number", confB, turns([]int{1<<63 - 1}, []int{0}), api.ErrTurns},
	})
}

func TestP3Quantum(t *testing.T) {
	both := func(quantum, flush int) func(c *api.Config) {
		return func(c *api.Config) { c.Quantum, c.Flush = quantum, flush }
	}
	runCases(t, []checkCase{
		{"A, the least Quantum", confA, both(5, 1), api.OK},
		{"A, one less", confA, both(4, 1), api.ErrQuantum},
		{"B, the least Quantum", confB, both(27, 2), api.OK},
		{"B, one less", confB, both(26, 2), api.ErrQuantum},
		{"the greatest of all, the least Quantum", confMost, both(305, 16), api.OK},
		{"the greatest of all, one less", confMost, both(304, 16), api.ErrQuantum},
		{"the greatest of all, less Flush", confMost, both(304, 15), api.OK},
		{"Quantum 2000", confB, both(2000, 2), api.OK},
		{"Quantum 2001", confB, both(2001, 2), api.ErrQuantum},
		{"Quantum 0", confB, both(0, 2), api.ErrQuantum},
		{"Quantum -1", confB, both(-1, 2), api.ErrQuantum},
		{"the least Quantum there is", confB, both(-1<<63, 2), api.ErrQuantum},
		{"the greatest Quantum there is", confB, both(1<<63-1, 2), api.ErrQuantum},
		{"Flush as Near", confB, both(2000, 2), api.OK},
		{"Flush below Near", confB, both(2000, 1), api.ErrQuantum},
		{"Flush 4 of Near 4", confMost, both(2000, 4), api.OK},
		{"Flush 3 of Near 4", confMost, both(2000, 3), api.ErrQuantum},
		{"Flush 0", confA, both(2000, 0), api.ErrQuantum},
		{"Flush 16", confA, both(2000, 16), api.OK},
		{"Flush 17", confA, both(2000, 17), api.ErrQuantum},
		{"the least Flush there is", confA, both(2000, -1<<63), api.ErrQuantum},
		{"the greatest Flush there is", confA, both(2000, 1<<63-1), api.ErrQuantum},
	})
}

// P1: of all sets of errors at once, the one named first is told.
func TestP1FirstError(t *testing.T) {
	spoil := []struct {
		e api.Errno
		f func(c *api.Config)
	}{
		{api.ErrShape, func(c *api.Config) { c.Line = 0 }},
		{api.ErrWays, func(c *api.Config) { c.Ways = nil }},
		{api.ErrSlots, func(c *api.Config) { c.Slots = nil }},
		{api.ErrTurns, func(c *api.Config) { c.Turns = nil }},
		{api.ErrQuantum, func(c *api.Config) { c.Quantum = 0 }},
	}
	for set := 0; set < 1<<len(spoil); set++ {
		c := confB()
		want := api.OK
		for i := len(spoil) - 1; i >= 0; i-- {
			if set>>i&1 == 1 {
				spoil[i].f(&c)
				want = spoil[i].e
			}
		}
		if e := Check(c); e != want {
			t.Errorf("P3: errors %05b: Check = %d, want %d", set, e, want)
		}
		if n, e := Worst(c); e != want || (e != api.OK && n != 0) {
			t.Errorf("P4: errors %05b: Worst = %d, %d, want the error %d", set, n, e, want)
		}
		if want == api.OK {
			want = api.ErrArg
		}
		if n, e := Enough(c, 9, 9, 99); e != want || n != 0 {
			t.Errorf("P5: errors %05b: Enough = %d, %d, want 0, %d", set, n, e, want)
		}
		if d, open, e := Turn(c, 9, -1); e != want || d != 0 || open {
			t.Errorf("P6: errors %05b: Turn = %d, %v, %d, want 0, false, %d", set, d, open, e, want)
		}
		if n, e := Wait(c, 9, -1); e != want || n != 0 {
			t.Errorf("P6: errors %05b: Wait = %d, %d, want 0, %d", set, n, e, want)
		}
	}
}

// owners counts who stands how often in a list.
func owners(list []int) map[int]int {
	n := map[int]int{}
	for _, v := range list {
		n[v]++
	}
	return n
}

// expected says P3 once more, by lists of what may be.
func expected(c api.Config) api.Errno {
	is124 := map[int]bool{1: true, 2: true, 4: true}
	if c.Cores < 1 || c.Cores > 3 || c.Domains < 1 || c.Domains > 4 || !is124[c.Line] || !is124[c.Near] || !is124[c.Sets] {
		return api.ErrShape
	}
	if c.Private < c.Line || c.Private > 64 || c.Private%c.Line != 0 || c.Shared < 0 || c.Shared > 32 || c.Shared%c.Line != 0 {
		return api.ErrShape
	}
	ways, slots := owners(c.Ways), owners(c.Slots)
	waysOf, slotsOf := 0, 0
	for d := 0; d < c.Domains; d++ {
		if !is124[ways[d]] {
			return api.ErrWays
		}
		waysOf += ways[d]
		slotsOf += slots[d]
	}
	if len(c.Ways) > 8 || waysOf != len(c.Ways) {
		return api.ErrWays
	}
	for d := 0; d < c.Domains; d++ {
		if slots[d] == 0 {
			return api.ErrSlots
		}
	}
	if c.Slot < 1 || c.Slot > 4 || len(c.Slots) > 8 || slotsOf != len(c.Slots) {
		return api.ErrSlots
	}
	if len(c.Turns) != c.Cores {
		return api.ErrTurns
	}
	for _, list := range c.Turns {
		if len(list) == 0 || len(list) > 4 {
			return api.ErrTurns
		}
		for d := range owners(list) {
			if d < -1 || d >= c.Domains {
				return api.ErrTurns
			}
		}
	}
	w := 3 * c.Cores * len(c.Slots) * c.Slot
	if c.Flush < c.Near || c.Flush > 16 || c.Quantum <= w+c.Flush || c.Quantum > 2000 {
		return api.ErrQuantum
	}
	return api.OK
}

// drawn makes a configuration that is often right, and often wrong in one place.
func drawn(r *rand.Rand) api.Config {
	list := func(least, most, low, high int) []int {
		l := make([]int, least+r.Intn(most-least+1))
		for i := range l {
			l[i] = low + r.Intn(high-low+1)
		}
		return l
	}
	pick := func(of ...int) int { return of[r.Intn(len(of))] }
	c := api.Config{Cores: 1 + r.Intn(3), Domains: 1 + r.Intn(4), Line: pick(1, 2, 4), Near: pick(1, 2, 4), Sets: pick(1, 2, 4), Slot: 1 + r.Intn(4), Flush: pick(4, 5, 15, 16)}
	c.Private, c.Shared = c.Line*(1+r.Intn(16)), c.Line*r.Intn(9)
	for d := 0; d < c.Domains; d++ {
		c.Ways = append(c.Ways, repeated(pick(1, 1, 2), d)...)
		c.Slots = append(c.Slots, d)
	}
	c.Slots = append(c.Slots, list(0, 4, 0, c.Domains-1)...)
	for i := 0; i < c.Cores; i++ {
		c.Turns = append(c.Turns, list(1, 4, -1, c.Domains-1))
	}
	c.Quantum = 3*c.Cores*len(c.Slots)*c.Slot + c.Flush + pick(1, 2, 50, 300)
	switch r.Intn(12) {
	case 0:
		numbers := numbersOf(&c)
		*numbers[r.Intn(len(numbers))] += pick(-1, 1)
	case 1:
		numbers := numbersOf(&c)
		*numbers[r.Intn(len(numbers))] = extremes[r.Intn(len(extremes))]
	case 2:
		c.Ways = append(c.Ways, list(1, 4, -1, 4)...)
	case 3:
		c.Ways = c.Ways[1:]
	case 4:
		c.Slots = append(c.Slots, list(1, 4, -1, 4)...)
	case 5:
		c.Slots = c.Slots[1:]
	case 6:
		c.Turns[r.Intn(c.Cores)] = list(0, 6, -2, 4)
	case 7:
		c.Turns = append(c.Turns, []int{0})
	case 8:
		c.Quantum -= 2
	}
	return c
}

func TestP3Drawn(t *testing.T) {
	r := rand.New(rand.NewSource(1))
	seen := map[api.Errno]int{}
	for i := 0; i < 20000; i++ {
		c := drawn(r)
		want := expected(c)
		seen[want]++
		if e := Check(c); e != want {
			t.Fatalf("P3: Check(%+v) = %d, want %d", c, e, want)
		}
	}
	for e := api.OK; e <= api.ErrQuantum; e++ {
		if seen[e] < 100 {
			t.Errorf("the error %d was drawn only %d times", e, seen[e])
		}
	}
}
