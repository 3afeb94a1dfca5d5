package walls

import (
	"math/rand"
	"slices"
	"testing"

	"walls/api"
)

// A model plays one domain alone, in another way than the machine does: what is stored and what is marked is read off
// the events so far, all touches are kept, and instead of near caches it has for each line the cores that hold it.
type model struct {
	c       api.Config
	d       int
	ops     [][]api.Op
	first   []int // the first words, the shared ones behind its own
	lines   map[[2]int]int
	filled  map[[2]int]int // of each set and way: the number of events when it was filled
	touched map[int][]int
	holders map[int]map[int]bool
	sole    map[int]bool // whether the one holder of a line may store to it
	queue   []int
	got     int // the services that the first of the queue got
	began   map[int]int
	done    map[int]int
	events  []api.Event
	seen    map[string]int
}

func modelled(c api.Config, d int, ops [][]api.Op, first []int, seen map[string]int) []api.Event {
	m := &model{c: c, d: d, ops: ops, first: first, seen: seen}
	m.lines, m.filled, m.touched = map[[2]int]int{}, map[[2]int]int{}, map[int][]int{}
	m.holders, m.sole = map[int]map[int]bool{}, map[int]bool{}
	m.began, m.done = map[int]int{}, map[int]int{}
	serving := services(c, d)
	for t := 0; t < 10000; t++ {
		if (t+c.Flush)%c.Quantum == 0 {
			m.holders = map[int]map[int]bool{}
		}
		just := -1
		if t == serving[0] {
			serving = serving[1:]
			just = m.service(t)
		}
		for core := 0; core < c.Cores; core++ {
			if core != just {
				m.core(t, core)
			}
		}
	}
	return m.events
}

func (m *model) op(core int) api.Op { return m.ops[core][m.done[core]] }

func (m *model) fault(op api.Op) int {
	switch {
	case op.Addr < 0 || op.Addr >= len(m.first):
		return api.FaultRange
	case op.Kind == api.Store && op.Addr >= m.c.Private:
		return api.FaultStore
	}
	return api.NoFault
}

func (m *model) end(t, core int) {
	op := m.op(core)
	e := api.Event{Core: core, Index: m.done[core], Fault: m.fault(op), Issue: m.began[core], Done: t}
	if e.Fault == api.NoFault && op.Kind == api.Store {
		e.Value = op.Val
	} else if e.Fault == api.NoFault {
		e.Value = m.first[op.Addr]
		for _, earlier := range m.events {
			o := m.ops[earlier.Core][earlier.Index]
			if o.Kind == api.Store && o.Addr == op.Addr && earlier.Fault == api.NoFault {
				e.Value = earlier.Value
			}
		}
	}
	m.events = append(m.events, e)
	m.done[core]++
	delete(m.began, core)
}

func (m *model) core(t, core int) {
	if since, busy := m.began[core]; busy {
		if m.fault(m.op(core)) != api.NoFault && t == since+2 {
			m.seen["fault"]++
			m.end(t, core)
		}
		return
	}
	list := m.c.Turns[core]
	left := m.c.Quantum - t%m.c.Quantum
	if list[t/m.c.Quantum%len(list)] != m.d || left <= m.c.Flush+3*m.c.Cores*len(m.c.Slots)*m.c.Slot || m.done[core] == len(m.ops[core]) {
		return
	}
	m.began[core] = t
	op := m.op(core)
	x := op.Addr / m.c.Line
	switch {
	case m.fault(op) != api.NoFault:
	case op.Kind == api.Load && m.holders[x][core]:
		m.seen["load at once"]++
		m.end(t, core)
	case op.Kind == api.Store && m.holders[x][core] && m.sole[x]:
		m.seen["store at once"]++
		m.end(t, core)
	default:
		if m.holders[x][core] {
			m.seen["store to a common copy"]++
		}
		m.queue = append(m.queue, core)
	}
}

// service gives the core at which an operation is done, or -1.
func (m *model) service(t int) int {
	if len(m.queue) == 0 {
		return -1
	}
	core := m.queue[0]
	op := m.op(core)
	x := op.Addr / m.c.Line
	m.got++
	set, ways := x%m.c.Sets, owners(m.c.Ways)[m.d]
	for way := 0; way < ways; way++ {
		if line, lies := m.lines[[2]int{set, way}]; lies && line == x {
			m.touched[set] = append(m.touched[set], way)
			m.hold(core, x, op)
			m.end(t, core)
			m.seen[[]string{"first", "second", "third", "more"}[min(m.got-1, 3)]]++
			m.seen["waiting"] += min(len(m.queue)-1, 1)
			m.queue, m.got = m.queue[1:], 0
			return core
		}
	}
	at := [2]int{set, 0}
	for at[1] < ways {
		if _, lies := m.lines[at]; !lies {
			break
		}
		at[1]++
	}
	if at[1] == ways {
		at[1] = byTree(ways, m.touched[set])
		old := m.lines[at]
		m.seen["taken from a core"] += min(len(m.holders[old]), 1)
		delete(m.holders, old)
		if m.marked(at) {
			delete(m.lines, at)
			return -1
		}
	}
	m.lines[at], m.filled[at] = x, len(m.events)
	return -1
}

func (m *model) marked(at [2]int) bool {
	for _, e := range m.events[m.filled[at]:] {
		op := m.ops[e.Core][e.Index]
		if op.Kind == api.Store && e.Fault == api.NoFault && op.Addr/m.c.Line == m.lines[at] {
			return true
		}
	}
	return false
}

// hold notes that a core gets a copy: other lines at the same place are gone there.
func (m *model) hold(core, x int, op api.Op) {
	for line, cores := range m.holders {
		if line != x && line%m.c.Near == x%m.c.Near {
			delete(cores, core)
		}
	}
	others := len(m.holders[x])
	if m.holders[x][core] {
		others--
	}
	if op.Kind == api.Store {
		m.seen["others go"] += min(others, 1)
		m.holders[x], m.sole[x] = map[int]bool{core: true}, true
		return
	}
	if others > 0 && m.sole[x] {
		m.seen["others become common"]++
	}
	if others == 0 {
		m.holders[x] = map[int]bool{}
	}
	m.holders[x][core] = true
	m.sole[x] = others == 0
}

// A play is a configuration with programs and first words for all domains.
type play struct {
	c      api.Config
	ops    [][][]api.Op // of each domain, at each core
	own    [][]int
	shared []int
}

func drawnOps(r *rand.Rand, c api.Config) []api.Op {
	words := c.Private + c.Shared
	few := 1 + r.Intn(words)
	if r.Intn(2) == 0 {
		few = 1 + r.Intn(min(words, 8))
	}
	var list []api.Op
	for n := r.Intn(65); n > 0; n-- {
		op := api.Op{Kind: r.Intn(2), Addr: r.Intn(few), Val: r.Intn(1000)}
		switch r.Intn(16) {
		case 0:
			op.Addr = extremes[r.Intn(len(extremes))]
		case 1:
			op.Addr = []int{-1, 0, c.Private - 1, c.Private, words - 1, words}[r.Intn(6)]
		case 2:
			op.Kind, op.Addr = api.Load, words-1-r.Intn(min(words, 4))
		case 3:
			op.Addr = r.Intn(words)
		}
		list = append(list, op)
	}
	return list
}

// drawnRight makes a configuration that is right, in which cores and lines often meet.
func drawnRight(r *rand.Rand) api.Config {
	for {
		c := drawn(r)
		for d := 0; d < c.Domains && r.Intn(2) == 0; d++ {
			c.Ways = append(c.Ways, repeated(r.Intn(4), d)...)
		}
		r.Shuffle(len(c.Ways), func(i, j int) { c.Ways[i], c.Ways[j] = c.Ways[j], c.Ways[i] })
		if r.Intn(2) == 0 {
			c.Flush = c.Near + r.Intn(3)
			c.Quantum = 3*c.Cores*len(c.Slots)*c.Slot + c.Flush + 1 + r.Intn(400)
		}
		if r.Intn(2) == 0 {
			for core := range c.Turns {
				c.Turns[core] = []int{r.Intn(2)}
			}
		}
		if expected(c) == api.OK {
			return c
		}
	}
}

func drawnPlay(r *rand.Rand) play {
	p := play{c: drawnRight(r)}
	words := func(n int) []int {
		list := make([]int, n)
		for i := range list {
			list[i] = -r.Intn(1000)
		}
		return list
	}
	p.shared = words(p.c.Shared)
	for d := 0; d < p.c.Domains; d++ {
		var ops [][]api.Op
		for core := 0; core < p.c.Cores; core++ {
			ops = append(ops, drawnOps(r, p.c))
		}
		p.ops, p.own = append(p.ops, ops), append(p.own, words(p.c.Private))
	}
	return p
}

// set makes the machine of a play, before its first cycle.
func (p play) set(t *testing.T) *Machine {
	t.Helper()
	m := built(t, p.c)
	for a, v := range p.shared {
		fine(t, m.Share(a, v))
	}
	for d := range p.ops {
		for a, v := range p.own[d] {
			fine(t, m.Fill(d, a, v))
		}
		for core, ops := range p.ops[d] {
			fine(t, m.Give(d, core, ops))
		}
	}
	return m
}

func TestP12Modelled(t *testing.T) {
	r := rand.New(rand.NewSource(6))
	seen := map[string]int{}
	for i := 0; i < 1200; i++ {
		p := drawnPlay(r)
		var want [][]api.Event
		for d := range p.ops {
			want = append(want, modelled(p.c, d, p.ops[d], append(slices.Clone(p.own[d]), p.shared...), seen))
		}
		m := p.set(t)
		for m.Now() < 10000 {
			fine(t, m.Run(min(10000-m.Now(), r.Intn(3000))))
			for d := range p.ops {
				list, e := m.Trace(d)
				if e != api.OK || !slices.Equal(list, before(want[d], m.Now())) {
					t.Fatalf("P12 to P14: of %+v at the time %d Trace(%d) = %v, %d, want %v", p, m.Now(), d, list, e, before(want[d], m.Now()))
				}
			}
		}
	}
	for _, k := range []string{"fault", "load at once", "store at once", "store to a common copy", "first", "second", "third", "waiting", "others go", "others become common", "taken from a core"} {
		if seen[k] < 300 {
			t.Errorf("too few plays have this: %s, %d times", k, seen[k])
		}
	}
	if seen["more"] > 0 {
		t.Errorf("P13: %d requests took more than three services", seen["more"])
	}
}
