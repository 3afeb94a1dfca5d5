package walls

import (
	"fmt"
	"math"
	"slices"
	"testing"

	"walls/api"
)

func load(a int) api.Op         { return api.Op{Kind: api.Load, Addr: a} }
func store(a int, v int) api.Op { return api.Op{Kind: api.Store, Addr: a, Val: v} }

func event(core, index, value, fault, issue, done int) api.Event {
	return api.Event{Core: core, Index: index, Value: value, Fault: fault, Issue: issue, Done: done}
}

// built is a new machine of a configuration that is right.
func built(t *testing.T, c api.Config) *Machine {
	t.Helper()
	m, e := New(c)
	if m == nil || e != api.OK {
		t.Fatalf("P8: New(%+v) = %v, %d", c, m, e)
	}
	return m
}

// fine stops the test if a call that must not fail did.
func fine(t *testing.T, e api.Errno) {
	t.Helper()
	if e != api.OK {
		t.Fatalf("a call that is right answered %d", e)
	}
}

// traced holds a domain's trace against what it must be.
func traced(t *testing.T, m *Machine, d int, want ...api.Event) {
	t.Helper()
	list, e := m.Trace(d)
	if e != api.OK || !slices.Equal(list, want) {
		t.Errorf("P14: at the time %d Trace(%d) = %v, %d, want %v", m.Now(), d, list, e, want)
	}
}

// exampleA and exampleB are the machines of the document's examples.
func exampleA(t *testing.T) *Machine {
	m := built(t, confA())
	fine(t, m.Fill(0, 1, 5))
	fine(t, m.Share(0, 9))
	fine(t, m.Give(0, 0, []api.Op{load(0), load(0), store(0, 7), load(1), load(4), store(4, 1), load(9)}))
	return m
}

func exampleB(t *testing.T) *Machine {
	m := built(t, confB())
	fine(t, m.Give(0, 0, []api.Op{store(0, 5), load(2)}))
	fine(t, m.Give(0, 1, []api.Op{load(1), store(1, 6), load(4)}))
	return m
}

var traceA = []api.Event{
	event(0, 0, 0, 0, 0, 2), event(0, 1, 0, 0, 3, 3), event(0, 2, 7, 0, 4, 4), event(0, 3, 5, 0, 5, 8),
	event(0, 4, 9, 0, 10, 12), event(0, 5, 0, 2, 13, 15), event(0, 6, 0, 1, 20, 22),
}

var traceB = []api.Event{
	event(0, 0, 5, 0, 0, 5), event(1, 0, 0, 0, 0, 9), event(0, 1, 0, 0, 6, 17), event(1, 1, 6, 0, 10, 21),
	event(1, 2, 0, 0, 80, 85),
}

// before lists the events that are done when some cycles have gone by.
func before(events []api.Event, time int) []api.Event {
	var list []api.Event
	for _, e := range events {
		if e.Done < time {
			list = append(list, e)
		}
	}
	return list
}

func TestP12Examples(t *testing.T) {
	for _, k := range []struct {
		m    *Machine
		want []api.Event
	}{{exampleA(t), traceA}, {exampleB(t), traceB}} {
		traced(t, k.m, 0)
		for time := 1; time <= 200; time++ {
			fine(t, k.m.Run(1))
			if k.m.Now() != time {
				t.Fatalf("P11: behind %d times Run(1) it is %d", time, k.m.Now())
			}
			traced(t, k.m, 0, before(k.want, time)...)
		}
	}
}

func TestP8New(t *testing.T) {
	for i, c := range []api.Config{confA(), confB(), confMost()} {
		m := built(t, c)
		if m.Now() != 0 {
			t.Errorf("P8: the time of a new machine %d is %d", i, m.Now())
		}
		fine(t, m.Run(10000))
		for d := 0; d < c.Domains; d++ {
			traced(t, m, d) // all programs are empty
		}
	}
	for i, f := range []func(c *api.Config){
		func(c *api.Config) { c.Near = 0 },
		func(c *api.Config) { c.Ways = nil },
		func(c *api.Config) { c.Slot = 0 },
		func(c *api.Config) { c.Turns = c.Turns[:1] },
		func(c *api.Config) { c.Quantum = 26 },
	} {
		c := confB()
		f(&c)
		if m, e := New(c); m != nil || e != api.Errno(i+1) {
			t.Errorf("P8: New with the error %d = %v, %d", i+1, m, e)
		}
	}
}

// All words are 0, nothing lies in the caches and no way was touched: each line takes two services, lines that fill
// the empty ways come first, and the way that gives way is the lower one, until it was touched.
func TestP8Empty(t *testing.T) {
	c := confA()
	c.Ways, c.Private, c.Quantum = []int{0, 0}, 5, 100
	m := built(t, c)
	fine(t, m.Give(0, 0, []api.Op{load(3), load(4), load(5), load(6), load(3), load(4)}))
	fine(t, m.Run(100))
	traced(t, m, 0, event(0, 0, 0, 0, 0, 2), event(0, 1, 0, 0, 3, 5), event(0, 2, 0, 0, 6, 8),
		event(0, 3, 0, 0, 9, 11), event(0, 4, 0, 0, 12, 14), event(0, 5, 0, 0, 15, 17))
}

func TestP9Errors(t *testing.T) {
	most := slices.Repeat([]api.Op{load(0)}, 64)
	long := append(slices.Clone(most), load(0))
	for _, k := range []struct {
		d, core int
		time    int
		ops     []api.Op
		e       api.Errno
	}{
		{0, 0, 0, nil, api.OK}, {1, 1, 0, []api.Op{}, api.OK}, {1, 0, 0, most, api.OK}, {0, 1, 0, []api.Op{load(math.MinInt), store(math.MaxInt, math.MinInt)}, api.OK},
		{2, 0, 0, nil, api.ErrArg}, {-1, 0, 0, nil, api.ErrArg}, {0, 2, 0, nil, api.ErrArg}, {0, -1, 0, nil, api.ErrArg},
		{2, 0, 1, nil, api.ErrArg}, {0, 2, 1, long, api.ErrArg}, {-1, 0, 0, long, api.ErrArg}, {0, -1, 10000, []api.Op{{Kind: 2}}, api.ErrArg},
		{0, 0, 1, nil, api.ErrBegun}, {1, 1, 10000, most, api.ErrBegun}, {0, 0, 1, long, api.ErrBegun}, {0, 0, 2, []api.Op{{Kind: 2}}, api.ErrBegun},
		{0, 0, 0, long, api.ErrOps}, {0, 0, 0, make([]api.Op, 100000), api.ErrOps},
		{0, 0, 0, []api.Op{{Kind: 2}}, api.ErrOps}, {0, 0, 0, []api.Op{{Kind: -1}}, api.ErrOps}, {0, 0, 0, []api.Op{load(0), {Kind: math.MaxInt}}, api.ErrOps},
		{0, 0, 0, append(slices.Clone(most[:63]), api.Op{Kind: math.MinInt}), api.ErrOps},
	} {
		m := built(t, confB())
		fine(t, m.Run(k.time))
		if e := m.Give(k.d, k.core, k.ops); e != k.e {
			t.Errorf("P9: at the time %d Give(%d, %d, %d operations) = %d, want %d", k.time, k.d, k.core, len(k.ops), e, k.e)
		}
	}
}

// The last program that was given is the one that runs, at its own core and of its own domain.
func TestP9Replaced(t *testing.T) {
	m := built(t, confB())
	fine(t, m.Give(0, 0, []api.Op{load(0), load(0), load(0)}))
	fine(t, m.Give(0, 1, []api.Op{store(0, 8)}))
	fine(t, m.Give(1, 1, []api.Op{load(-1)}))
	fine(t, m.Give(0, 1, nil))
	fine(t, m.Give(1, 0, []api.Op{load(0)}))
	fine(t, m.Run(0))
	fine(t, m.Give(0, 0, []api.Op{load(7)}))
	fine(t, m.Run(3000))
	traced(t, m, 0, event(0, 0, 0, 1, 0, 2))
	traced(t, m, 1, event(1, 0, 0, 1, 40, 42))
}

func TestP9Longest(t *testing.T) {
	m := built(t, confA())
	var ops []api.Op
	var want []api.Event
	for i := 0; i < 64; i++ {
		ops = append(ops, load(-1-i))
		turn := i / 2 * 10
		want = append(want, event(0, i, 0, api.FaultRange, turn+i%2*3, turn+i%2*3+2))
	}
	fine(t, m.Give(0, 0, ops))
	fine(t, m.Run(1000))
	traced(t, m, 0, want...)
}

func TestP10Errors(t *testing.T) {
	for _, k := range []struct {
		d, a, time int
		e          api.Errno
	}{
		{0, 0, 0, api.OK}, {1, 3, 0, api.OK},
		{2, 0, 0, api.ErrArg}, {-1, 0, 0, api.ErrArg}, {0, 4, 0, api.ErrArg}, {0, -1, 0, api.ErrArg}, {1, 5, 0, api.ErrArg},
		{2, 0, 1, api.ErrArg}, {-1, 0, 7, api.ErrArg}, {0, 4, 1, api.ErrArg}, {0, -1, 10000, api.ErrArg},
		{0, 0, 1, api.ErrBegun}, {1, 3, 10000, api.ErrBegun},
	} {
		m := built(t, confB())
		fine(t, m.Run(k.time))
		if e := m.Fill(k.d, k.a, 1); e != k.e {
			t.Errorf("P10: at the time %d Fill(%d, %d, 1) = %d, want %d", k.time, k.d, k.a, e, k.e)
		}
	}
	none := confB()
	none.Shared = 0
	for _, k := range []struct {
		c       api.Config
		a, time int
		e       api.Errno
	}{
		{confB(), 0, 0, api.OK}, {confB(), 1, 0, api.OK},
		{confB(), 2, 0, api.ErrArg}, {confB(), -1, 0, api.ErrArg}, {confB(), 4, 0, api.ErrArg}, {none, 0, 0, api.ErrArg},
		{confB(), 2, 1, api.ErrArg}, {confB(), -1, 10000, api.ErrArg}, {none, 0, 1, api.ErrArg},
		{confB(), 0, 1, api.ErrBegun}, {confB(), 1, 10000, api.ErrBegun},
	} {
		m := built(t, k.c)
		fine(t, m.Run(k.time))
		if e := m.Share(k.a, 1); e != k.e {
			t.Errorf("P10: at the time %d Share(%d, 1) = %d, want %d", k.time, k.a, e, k.e)
		}
	}
}

// Every word that a domain has is laid down first and loaded then: its own ones are its own, the shared ones are for all.
func TestP10Words(t *testing.T) {
	c := confMost()
	c.Turns = [][]int{{0, 1, 2, 3}, {3, 2, 1, 0}, {1, 0, 3, 2}}
	value := func(d, a int) int {
		if a >= 64 {
			d = 9
		}
		return extremes[(7*d+a)%len(extremes)] + 3*a
	}
	m := built(t, c)
	for d := 0; d < 4; d++ {
		for a := 0; a < 64; a++ {
			fine(t, m.Fill(d, a, 12345))
			fine(t, m.Fill(d, a, value(d, a)))
		}
		for core := 0; core < 3; core++ {
			var ops []api.Op
			for a := 32 * core; a < 32*core+32; a++ {
				ops = append(ops, load(a))
			}
			fine(t, m.Give(d, core, ops))
		}
	}
	for a := 0; a < 32; a++ {
		fine(t, m.Share(a, 54321))
		fine(t, m.Share(a, value(9, 64+a)))
	}
	fine(t, m.Run(10000))
	for d := 0; d < 4; d++ {
		list, e := m.Trace(d)
		if e != api.OK || len(list) != 96 {
			t.Fatalf("P10: %d of 96 loads of domain %d are done, %d", len(list), d, e)
		}
		for _, ev := range list {
			a := 32*ev.Core + ev.Index
			if ev.Value != value(d, a) || ev.Fault != api.NoFault {
				t.Errorf("P10: domain %d loads from %d %d, want %d", d, a, ev.Value, value(d, a))
			}
		}
	}
}

func TestP11Errors(t *testing.T) {
	for _, k := range []struct {
		time, n int
		e       api.Errno
	}{
		{0, 0, api.OK}, {0, 1, api.OK}, {0, 10000, api.OK}, {1, 9999, api.OK}, {9999, 1, api.OK}, {10000, 0, api.OK},
		{0, -1, api.ErrArg}, {0, math.MinInt, api.ErrArg}, {10000, -1, api.ErrArg}, {10000, math.MinInt, api.ErrArg},
		{0, 10001, api.ErrTime}, {1, 10000, api.ErrTime}, {10000, 1, api.ErrTime}, {0, math.MaxInt, api.ErrTime}, {1, math.MaxInt, api.ErrTime}, {10000, math.MaxInt, api.ErrTime},
	} {
		m := exampleB(t)
		fine(t, m.Run(k.time))
		time := k.time
		if k.e == api.OK {
			time += k.n
		}
		if e := m.Run(k.n); e != k.e || m.Now() != time {
			t.Errorf("P11: at the time %d Run(%d) = %d, and the time is %d; want %d, %d", k.time, k.n, e, m.Now(), k.e, time)
		}
		traced(t, m, 0, before(traceB, time)...)
	}
}

func TestP14Errors(t *testing.T) {
	for _, time := range []int{0, 50, 10000} {
		m := exampleB(t)
		fine(t, m.Run(time))
		for _, d := range []int{-1, 2, 3, math.MinInt, math.MaxInt} {
			if list, e := m.Trace(d); list != nil || e != api.ErrArg {
				t.Errorf("P14: Trace(%d) = %v, %d, want nil, ErrArg", d, list, e)
			}
		}
	}
}

// spoiled makes many calls that are wrong: nothing may hang on them.
func spoiled(m *Machine) {
	long := make([]api.Op, 65)
	m.Give(0, 0, long)
	m.Give(0, 0, []api.Op{load(1), {Kind: 7}})
	m.Give(0, 2, []api.Op{load(3)})
	m.Give(-1, 0, []api.Op{load(3)})
	m.Fill(0, -1, 99)
	m.Fill(0, 4, 99)
	m.Fill(2, 0, 99)
	m.Share(-1, 99)
	m.Share(2, 99)
	m.Run(-1)
	m.Run(10001)
	m.Trace(-1)
	m.Trace(2)
	m.Near(2)
	m.Far(-1)
	m.Memory(0, 6)
	if m.Now() > 0 {
		m.Give(0, 0, []api.Op{load(3)})
		m.Give(0, 1, nil)
		m.Fill(0, 0, 99)
		m.Fill(0, 2, 99)
		m.Share(0, 99)
	}
}

func TestP1NothingChanged(t *testing.T) {
	m, twin := exampleB(t), exampleB(t)
	for time := 0; time < 100; time++ {
		spoiled(m)
		alike(t, twin, m, 0)
		alike(t, twin, m, 1)
		fine(t, m.Run(1))
		fine(t, twin.Run(1))
		traced(t, m, 0, before(traceB, time+1)...)
		traced(t, m, 1)
	}
}

// Every call of a machine, at numbers where sums, products and indexes go wrong.
func TestP1Machines(t *testing.T) {
	for _, c := range []api.Config{confA(), confB(), confMost()} {
		for _, time := range []int{0, 1} {
			m := built(t, c)
			fine(t, m.Run(time))
			for _, v := range extremes {
				for _, w := range extremes {
					m.Give(v, w, []api.Op{load(0)})
					m.Give(0, 0, []api.Op{{Kind: v, Addr: w, Val: v}})
					m.Fill(v, w, v)
					m.Share(v, w)
					m.Memory(v, w)
				}
				if v <= 0 || v > 10000 {
					m.Run(v)
				}
				m.Trace(v)
				m.Near(v)
				m.Far(v)
			}
			fine(t, m.Run(2000))
		}
		var ops []api.Op
		for _, a := range extremes {
			ops = append(ops, load(a), store(a, -a))
		}
		m := built(t, c)
		for core := 0; core < c.Cores; core++ {
			for d := 0; d < c.Domains; d++ {
				fine(t, m.Give(d, core, ops))
			}
		}
		fine(t, m.Run(10000))
		list, e := m.Trace(0)
		if e != api.OK || len(list) < len(ops) {
			t.Errorf("P1: of %d operations %d are done, %d", len(ops), len(list), e)
		}
	}
}

func TestP2Give(t *testing.T) {
	m := built(t, confB())
	room := slices.Repeat([]api.Op{store(1, 77)}, 10)
	room[0], room[1] = store(0, 5), load(2)
	was := slices.Clone(room)
	fine(t, m.Give(0, 0, room[:2]))
	fine(t, m.Give(0, 1, []api.Op{load(1), store(1, 6), load(4)}))
	for time := 0; time < 100; time++ {
		if !slices.Equal(room, was) {
			t.Fatalf("P2: a program that was handed in was written into: %v, was %v", room, was)
		}
		for i := range room {
			room[i] = store(3, time)
		}
		was = slices.Clone(room)
		fine(t, m.Run(1))
	}
	traced(t, m, 0, traceB...)
}

func TestP2New(t *testing.T) {
	c, twin := roomyConf(confB()), roomyConf(confB())
	m := built(t, c)
	fine(t, m.Give(0, 0, []api.Op{store(0, 5), load(2)}))
	fine(t, m.Give(0, 1, []api.Op{load(1), store(1, 6), load(4)}))
	for time := 0; time < 100; time++ {
		if fmt.Sprint(whole(c)) != fmt.Sprint(whole(twin)) {
			t.Fatalf("P2: a configuration that was handed in was written into: %v, was %v", whole(c), whole(twin))
		}
		for _, conf := range []api.Config{c, twin} {
			for _, list := range whole(conf) {
				for i := range list {
					list[i] = -1 - time
				}
			}
			conf.Turns[time%2] = []int{-1}
		}
		fine(t, m.Run(1))
	}
	traced(t, m, 0, traceB...)
}

func TestP2Trace(t *testing.T) {
	m := exampleB(t)
	for time := 0; time <= 100; time++ {
		list, e := m.Trace(0)
		fine(t, e)
		list = append(list, event(7, 7, 7, 7, 7, 7))
		list = list[:cap(list)]
		for i := range list {
			list[i] = event(8, 8, 8, 8, 8, 8)
		}
		traced(t, m, 0, before(traceB, time)...)
		fine(t, m.Run(1))
	}
}

// Machines of one configuration, played in turn, go on as if they were alone.
func TestP2Machines(t *testing.T) {
	c := confB()
	var list []*Machine
	for i := 0; i < 4; i++ {
		m := built(t, c)
		fine(t, m.Fill(0, 1, i))
		fine(t, m.Share(0, 10*i))
		fine(t, m.Give(0, 0, []api.Op{store(0, 5+i), load(2)}))
		fine(t, m.Give(0, 1, []api.Op{load(1), store(1, 6+i), load(4)}))
		list = append(list, m)
	}
	for time := 0; time < 100; time++ {
		for i, m := range list {
			fine(t, m.Run(1))
			want := slices.Clone(traceB)
			want[0].Value, want[1].Value, want[3].Value, want[4].Value = 5+i, i, 6+i, 10*i
			traced(t, m, 0, before(want, time+1)...)
			words(t, m, 0, 0, i, 0, 0, 10*i, 0)
		}
	}
}
