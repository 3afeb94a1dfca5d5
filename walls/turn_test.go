package walls

import (
	"math/rand"
	"testing"

	"walls/api"
)

func TestP6TurnExamples(t *testing.T) {
	nobody := confB()
	nobody.Turns = [][]int{{-1, 0}, {1, -1, 0, -1}}
	for _, k := range []struct {
		c       api.Config
		core, t int
		d       int
		open    bool
	}{
		{confA(), 0, 0, 0, true}, {confA(), 0, 5, 0, true}, {confA(), 0, 6, 0, false}, {confA(), 0, 9, 0, false},
		{confA(), 0, 10, 0, true}, {confA(), 0, 19, 0, false}, {confA(), 0, 9999, 0, false}, {confA(), 0, 10000, 0, true},
		{confB(), 0, 13, 0, true}, {confB(), 0, 14, 0, false}, {confB(), 0, 39, 0, false}, {confB(), 0, 40, 0, true}, {confB(), 0, 45, 0, true},
		{confB(), 1, 13, 0, true}, {confB(), 1, 14, 0, false}, {confB(), 1, 39, 0, false}, {confB(), 1, 40, 1, true}, {confB(), 1, 45, 1, true},
		{confB(), 1, 53, 1, true}, {confB(), 1, 54, 1, false}, {confB(), 1, 79, 1, false}, {confB(), 1, 80, 0, true}, {confB(), 1, 10000, 0, true},
		{nobody, 0, 0, -1, false}, {nobody, 0, 39, -1, false}, {nobody, 0, 40, 0, true}, {nobody, 0, 80, -1, false},
		{nobody, 1, 0, 1, true}, {nobody, 1, 40, -1, false}, {nobody, 1, 80, 0, true}, {nobody, 1, 120, -1, false}, {nobody, 1, 160, 1, true},
		{confMost(), 0, 1695, 0, true}, {confMost(), 0, 1696, 0, false}, {confMost(), 0, 7999, 3, false}, {confMost(), 0, 8000, 0, true}, {confMost(), 2, 4000, -1, false},
	} {
		if d, open, e := Turn(k.c, k.core, k.t); d != k.d || open != k.open || e != api.OK {
			t.Errorf("P6: Turn(.., %d, %d) = %d, %v, %d, want %d, %v", k.core, k.t, d, open, e, k.d, k.open)
		}
	}
}

func TestP6TurnWrong(t *testing.T) {
	for _, k := range []struct {
		c       api.Config
		core, t int
	}{
		{confA(), 0, 10001}, {confA(), 0, -1}, {confA(), 1, 0}, {confA(), -1, 0},
		{confB(), 2, 0}, {confB(), -1, 45}, {confB(), 1, 10001}, {confB(), 1, -40},
		{confMost(), 3, 0}, {confMost(), 1, 10001},
	} {
		if d, open, e := Turn(k.c, k.core, k.t); d != 0 || open || e != api.ErrArg {
			t.Errorf("P6: Turn(.., %d, %d) = %d, %v, %d, want 0, false, ErrArg", k.core, k.t, d, open, e)
		}
	}
}

func TestP6WaitExamples(t *testing.T) {
	several := confB()
	several.Slot, several.Slots, several.Quantum = 3, []int{1, 0, 0, 1, 1}, 200
	for _, k := range []struct {
		c    api.Config
		d, t int
		n    int
	}{
		{confA(), 0, 0, 0}, {confA(), 0, 1, 1}, {confA(), 0, 9999, 9999}, {confA(), 0, 10000, 10000},
		{confB(), 1, 0, 3}, {confB(), 1, 3, 3}, {confB(), 1, 4, 7}, {confB(), 1, 7, 7}, {confB(), 1, 8, 11}, {confB(), 1, 10000, 10003},
		{confB(), 0, 0, 1}, {confB(), 0, 1, 1}, {confB(), 0, 2, 5}, {confB(), 0, 5, 5}, {confB(), 0, 6, 9}, {confB(), 0, 10000, 10001},
		{several, 1, 0, 2}, {several, 1, 2, 2}, {several, 1, 3, 11}, {several, 1, 12, 14}, {several, 1, 15, 17}, {several, 1, 18, 26},
		{several, 0, 0, 5}, {several, 0, 5, 5}, {several, 0, 6, 8}, {several, 0, 8, 8}, {several, 0, 9, 20},
		{confMost(), 0, 0, 31}, {confMost(), 0, 31, 31}, {confMost(), 0, 32, 63}, {confMost(), 3, 19, 19}, {confMost(), 3, 20, 35}, {confMost(), 0, 10000, 10015},
	} {
		if n, e := Wait(k.c, k.d, k.t); n != k.n || e != api.OK {
			t.Errorf("P6: Wait(.., %d, %d) = %d, %d, want %d", k.d, k.t, n, e, k.n)
		}
	}
}

func TestP6WaitWrong(t *testing.T) {
	for _, k := range []struct {
		c    api.Config
		d, t int
	}{
		{confA(), 0, 10001}, {confA(), 0, -1}, {confA(), 1, 0}, {confA(), -1, 0},
		{confB(), 2, 0}, {confB(), -1, 3}, {confB(), 1, 10001}, {confB(), 1, -4},
		{confMost(), 4, 0}, {confMost(), -1, 0},
	} {
		if n, e := Wait(k.c, k.d, k.t); n != 0 || e != api.ErrArg {
			t.Errorf("P6: Wait(.., %d, %d) = %d, %d, want 0, ErrArg", k.d, k.t, n, e)
		}
	}
}

// walkTurns goes from cycle to cycle, without a division, and holds Turn against what it meets.
func walkTurns(t *testing.T, c api.Config, core int) {
	t.Helper()
	w := 3 * c.Cores * len(c.Slots) * c.Slot
	at, place := 0, 0
	for cycle := 0; cycle <= 10000; cycle++ {
		want := c.Turns[core][at]
		left := c.Quantum - place
		d, open, e := Turn(c, core, cycle)
		if d != want || open != (want != -1 && left > c.Flush+w) || e != api.OK {
			t.Fatalf("P6: Turn(%+v, %d, %d) = %d, %v, %d", c, core, cycle, d, open, e)
		}
		place++
		if place == c.Quantum {
			place = 0
			at++
		}
		if at == len(c.Turns[core]) {
			at = 0
		}
	}
}

// services lists the service cycles of d from 0 on, to one that is MaxTime or more, slot by slot.
func services(c api.Config, d int) []int {
	var list []int
	end := 0
	for {
		for _, owner := range c.Slots {
			end += c.Slot
			if owner == d {
				list = append(list, end-1)
			}
			if owner == d && end-1 >= 10000 {
				return list
			}
		}
	}
}

func walkSlots(t *testing.T, c api.Config, d int) {
	t.Helper()
	list := services(c, d)
	for cycle := 0; cycle <= 10000; cycle++ {
		if list[0] < cycle {
			list = list[1:]
		}
		if n, e := Wait(c, d, cycle); n != list[0] || e != api.OK {
			t.Fatalf("P6: Wait(%+v, %d, %d) = %d, %d, want %d", c, d, cycle, n, e, list[0])
		}
	}
}

func TestP6Walked(t *testing.T) {
	list := []api.Config{confA(), confB(), confMost()}
	least := confMost()
	least.Quantum = 305
	list = append(list, least)
	r := rand.New(rand.NewSource(3))
	for len(list) < 60 {
		c := drawn(r)
		if expected(c) == api.OK {
			list = append(list, c)
		}
	}
	for _, c := range list {
		for core := 0; core < c.Cores; core++ {
			walkTurns(t, c, core)
		}
		for d := 0; d < c.Domains; d++ {
			walkSlots(t, c, d)
		}
	}
}

func TestP6Drawn(t *testing.T) {
	r := rand.New(rand.NewSource(4))
	for i := 0; i < 20000; i++ {
		c := drawn(r)
		core, d, cycle := r.Intn(5)-1, r.Intn(6)-1, r.Intn(10020)-10
		want := expected(c)
		inTime := cycle >= 0 && cycle <= 10000
		turnWant, waitWant := want, want
		if want == api.OK && !(inTime && core >= 0 && core < c.Cores) {
			turnWant = api.ErrArg
		}
		if want == api.OK && !(inTime && d >= 0 && d < c.Domains) {
			waitWant = api.ErrArg
		}
		if owner, open, e := Turn(c, core, cycle); e != turnWant || (e != api.OK && (owner != 0 || open)) {
			t.Fatalf("P6: Turn(%+v, %d, %d) = %d, %v, %d, want the error %d", c, core, cycle, owner, open, e, turnWant)
		}
		if n, e := Wait(c, d, cycle); e != waitWant || (e != api.OK && n != 0) || (e == api.OK && n < cycle) {
			t.Fatalf("P6: Wait(%+v, %d, %d) = %d, %d, want the error %d", c, d, cycle, n, e, waitWant)
		}
	}
}
