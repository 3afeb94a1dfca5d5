package walls

import (
	"reflect"
	"testing"

	"walls/api"
)

// ask makes the calls that look at a configuration alone, and holds their answers against one another.
func ask(t *testing.T, c api.Config, core, d, k int) {
	t.Helper()
	want := Check(c)
	if want < api.OK || want > api.ErrQuantum {
		t.Errorf("P3: Check(%+v) = %d, which is none of its errors", c, want)
	}
	if n, e := Worst(c); e != want || (e != api.OK && n != 0) {
		t.Errorf("P1, P4: Worst(%+v) = %d, %d, but Check = %d", c, n, e, want)
	}
	n, e := Enough(c, core, d, k)
	if (want != api.OK && e != want) || (want == api.OK && e != api.OK && e != api.ErrArg) || (e != api.OK && n != 0) || n < 0 {
		t.Errorf("P1, P5: Enough(%+v, %d, %d, %d) = %d, %d, but Check = %d", c, core, d, k, n, e, want)
	}
	owner, open, e := Turn(c, core, k)
	if (want != api.OK && e != want) || (want == api.OK && e != api.OK && e != api.ErrArg) || (e != api.OK && (owner != 0 || open)) || (owner == -1 && open) {
		t.Errorf("P1, P6: Turn(%+v, %d, %d) = %d, %v, %d, but Check = %d", c, core, k, owner, open, e, want)
	}
	n, e = Wait(c, d, k)
	if (want != api.OK && e != want) || (want == api.OK && e != api.OK && e != api.ErrArg) || (e != api.OK && n != 0) || (e == api.OK && n < k) {
		t.Errorf("P1, P6: Wait(%+v, %d, %d) = %d, %d, but Check = %d", c, d, k, n, e, want)
	}
}

func TestP1Numbers(t *testing.T) {
	ask(t, api.Config{}, 0, 0, 0)
	for _, base := range []func() api.Config{confA, confB, confMost} {
		for i := range numbersOf(&api.Config{}) {
			for j := range numbersOf(&api.Config{}) {
				for _, v := range extremes {
					for _, w := range extremes {
						c := base()
						*numbersOf(&c)[i] = v
						*numbersOf(&c)[j] = w
						ask(t, c, 0, 0, 1)
					}
				}
			}
		}
	}
}

func TestP1Arguments(t *testing.T) {
	for _, base := range []func() api.Config{confA, confB, confMost} {
		for _, core := range extremes {
			for _, d := range extremes {
				for _, k := range extremes {
					ask(t, base(), core, d, k)
				}
			}
		}
	}
}

func TestP1Lists(t *testing.T) {
	lists := [][]int{nil, {}, {0}, {1}, {-1}, {0, 1}, extremes, repeated(8, 0), repeated(9, 0), repeated(100000, 0), repeated(100000, -1)}
	for _, v := range extremes {
		lists = append(lists, []int{v}, []int{0, v}, []int{v, 0, 1})
	}
	for _, list := range lists {
		for _, base := range []func() api.Config{confA, confB, confMost} {
			c := base()
			c.Ways = list
			ask(t, c, 0, 0, 1)
			c = base()
			c.Slots = list
			ask(t, c, 0, 0, 1)
			for core := range base().Turns {
				c = base()
				c.Turns[core] = list
				ask(t, c, core, 0, 1)
			}
			for _, n := range []int{0, 1, 2, 3, 4, 1000} {
				c = base()
				c.Turns = nil
				for i := 0; i < n; i++ {
					c.Turns = append(c.Turns, list)
				}
				ask(t, c, 0, 0, 1)
			}
		}
	}
}

// roomy lays a list before spare room that is filled with 77.
func roomy(list []int) []int {
	l := repeated(len(list)+20, 77)
	copy(l, list)
	return l[:len(list)]
}

// roomyConf gives every list of a configuration spare room.
func roomyConf(c api.Config) api.Config {
	c.Ways, c.Slots = roomy(c.Ways), roomy(c.Slots)
	turns := make([][]int, len(c.Turns)+3)
	for i := range turns {
		turns[i] = roomy([]int{78})
		if i < len(c.Turns) {
			turns[i] = roomy(c.Turns[i])
		}
	}
	c.Turns = turns[:len(c.Turns)]
	return c
}

// whole lays out all that a configuration's lists hold, with their spare room.
func whole(c api.Config) [][]int {
	all := [][]int{c.Ways[:cap(c.Ways)], c.Slots[:cap(c.Slots)]}
	for _, list := range c.Turns[:cap(c.Turns)] {
		all = append(all, list[:cap(list)])
	}
	return all
}

func TestP2NotWritten(t *testing.T) {
	spoilt := confB()
	spoilt.Quantum = 0
	for i, base := range []api.Config{confA(), confB(), confMost(), spoilt} {
		c, twin := roomyConf(base), roomyConf(base)
		Check(c)
		Worst(c)
		Enough(c, 0, 0, 64)
		Enough(c, 0, 9, 64)
		for _, cycle := range []int{0, 1, 39, 40, 45, 10000, 10001} {
			Turn(c, 0, cycle)
			Turn(c, c.Cores-1, cycle)
			Wait(c, 0, cycle)
			Wait(c, c.Domains-1, cycle)
		}
		if !reflect.DeepEqual(c, twin) || !reflect.DeepEqual(whole(c), whole(twin)) {
			t.Errorf("P2: configuration %d was written into: %v, was %v", i, whole(c), whole(twin))
		}
	}
}

func TestP2NotKept(t *testing.T) {
	c := confB()
	Check(c)
	Worst(c)
	Enough(c, 1, 1, 2)
	Turn(c, 1, 45)
	Wait(c, 1, 0)
	c.Ways[0], c.Slots[0], c.Turns[1][0], c.Turns[1][1] = 5, 5, 5, 5
	if e := Check(c); e != api.ErrWays {
		t.Errorf("P2: Check of a list written into since = %d, want ErrWays", e)
	}
	c.Ways[0], c.Slots[0] = 0, 0
	c.Turns[1] = []int{0, -1, -1, 1}
	if n, e := Enough(c, 1, 1, 2); n != 320 || e != api.OK {
		t.Errorf("P2: Enough behind a change = %d, %d, want 320", n, e)
	}
	c.Slots[0], c.Slots[1] = 1, 0
	if d, open, e := Turn(c, 1, 45); d != -1 || open || e != api.OK {
		t.Errorf("P2: Turn behind a change = %d, %v, %d, want -1, false", d, open, e)
	}
	if n, e := Wait(c, 1, 0); n != 1 || e != api.OK {
		t.Errorf("P2: Wait behind a change = %d, %d, want 1", n, e)
	}
	if n, e := Enough(confB(), 1, 1, 2); n != 160 || e != api.OK {
		t.Errorf("P2: Enough of the first configuration = %d, %d, want 160", n, e)
	}
}
