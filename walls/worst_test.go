package walls

import (
	"math/rand"
	"testing"

	"walls/api"
)

func TestP4Worst(t *testing.T) {
	least := confA()
	long := confA()
	long.Slots, long.Quantum = repeated(8, 0), 2000
	wide := confA()
	wide.Slot, wide.Quantum = 4, 2000
	many := confA()
	many.Cores, many.Turns, many.Quantum = 3, [][]int{{0}, {0}, {0}}, 2000
	for i, k := range []struct {
		c api.Config
		n int
	}{{least, 3}, {confB(), 24}, {confMost(), 288}, {long, 24}, {wide, 12}, {many, 9}} {
		if n, e := Worst(k.c); n != k.n || e != api.OK {
			t.Errorf("P4: case %d: Worst = %d, %d, want %d", i, n, e, k.n)
		}
	}
}

func TestP4Wrong(t *testing.T) {
	for i, k := range []struct {
		f func(c *api.Config)
		e api.Errno
	}{
		{func(c *api.Config) { c.Cores = 0 }, api.ErrShape},
		{func(c *api.Config) { c.Ways = nil }, api.ErrWays},
		{func(c *api.Config) { c.Slots = nil }, api.ErrSlots},
		{func(c *api.Config) { c.Turns = nil }, api.ErrTurns},
		{func(c *api.Config) { c.Quantum = 26 }, api.ErrQuantum},
	} {
		c := confB()
		k.f(&c)
		if n, e := Worst(c); n != 0 || e != k.e {
			t.Errorf("P4: case %d: Worst = %d, %d, want 0, %d", i, n, e, k.e)
		}
		if n, e := Enough(c, 0, 0, 1); n != 0 || e != k.e {
			t.Errorf("P5: case %d: Enough = %d, %d, want 0, %d", i, n, e, k.e)
		}
	}
}

func TestP5Examples(t *testing.T) {
	for _, k := range []struct {
		c          api.Config
		core, d, k int
		n          int
	}{
		{confA(), 0, 0, 7, 40}, {confA(), 0, 0, 0, 0}, {confA(), 0, 0, 8, 40}, {confA(), 0, 0, 9, 50}, {confA(), 0, 0, 64, 320},
		{confB(), 1, 1, 2, 160}, {confB(), 1, 0, 2, 160}, {confB(), 0, 0, 2, 80}, {confB(), 0, 0, 0, 0}, {confB(), 1, 1, 64, 5120},
		{confMost(), 0, 3, 6, 8000}, {confMost(), 0, 3, 7, 16000}, {confMost(), 2, 3, 64, 88000},
	} {
		if n, e := Enough(k.c, k.core, k.d, k.k); n != k.n || e != api.OK {
			t.Errorf("P5: Enough(.., %d, %d, %d) = %d, %d, want %d", k.core, k.d, k.k, n, e, k.n)
		}
	}
}

func TestP5Wrong(t *testing.T) {
	for _, k := range []struct {
		name       string
		c          api.Config
		core, d, k int
	}{
		{"core -1", confB(), -1, 0, 1}, {"core 2", confB(), 2, 0, 1},
		{"domain -1", confB(), 0, -1, 1}, {"domain 2", confB(), 0, 2, 1},
		{"domain -1, which stands in the list", confMost(), 1, -1, 1},
		{"domain 4", confMost(), 0, 4, 1},
		{"k -1", confB(), 0, 0, -1}, {"k 65", confB(), 0, 0, 65},
		{"a domain of another core", confB(), 0, 1, 1},
		{"a domain of another core, and k 0", confB(), 0, 1, 0},
		{"a core of nobody", confMost(), 1, 0, 1},
	} {
		if n, e := Enough(k.c, k.core, k.d, k.k); n != 0 || e != api.ErrArg {
			t.Errorf("P5: %s: Enough = %d, %d, want 0, ErrArg", k.name, n, e)
		}
	}
}

// counted finds P5's number by counting: operations that each take W + 1 cycles begin at open places of one turn,
// and rounds go by until all have begun.
func counted(c api.Config, core int, k int) int {
	w := 3 * c.Cores * len(c.Slots) * c.Slot
	g := 0
	for place := 0; place < c.Quantum-c.Flush-w; place += w + 1 {
		g++
	}
	cycles := 0
	for done := 0; done < k; done += g {
		cycles += len(c.Turns[core]) * c.Quantum
	}
	return cycles
}

func TestP5Counted(t *testing.T) {
	for quantum := 5; quantum <= 60; quantum++ {
		c := confA()
		c.Quantum = quantum
		for k := 0; k <= 64; k++ {
			want := counted(c, 0, k)
			if n, e := Enough(c, 0, 0, k); n != want || e != api.OK {
				t.Fatalf("P5: Quantum %d: Enough(.., 0, 0, %d) = %d, %d, want %d", quantum, k, n, e, want)
			}
		}
	}
}

func TestP5Drawn(t *testing.T) {
	r := rand.New(rand.NewSource(2))
	right, absent := 0, 0
	for i := 0; i < 20000; i++ {
		c := drawn(r)
		want := expected(c)
		n, e := Worst(c)
		if want != api.OK {
			if n != 0 || e != want {
				t.Fatalf("P4: Worst(%+v) = %d, %d, want 0, %d", c, n, e, want)
			}
			continue
		}
		if n != 3*c.Cores*len(c.Slots)*c.Slot || e != api.OK {
			t.Fatalf("P4: Worst(%+v) = %d, %d", c, n, e)
		}
		core, d, k := r.Intn(c.Cores), r.Intn(c.Domains), r.Intn(65)
		n, e = Enough(c, core, d, k)
		if owners(c.Turns[core])[d] == 0 {
			absent++
			if n != 0 || e != api.ErrArg {
				t.Fatalf("P5: Enough(%+v, %d, %d, %d) = %d, %d, want 0, ErrArg", c, core, d, k, n, e)
			}
			continue
		}
		right++
		if n != counted(c, core, k) || e != api.OK {
			t.Fatalf("P5: Enough(%+v, %d, %d, %d) = %d, %d, want %d", c, core, d, k, n, e, counted(c, core, k))
		}
	}
	if right < 1000 || absent < 1000 {
		t.Errorf("only %d right and %d absent domains were drawn", right, absent)
	}
}
