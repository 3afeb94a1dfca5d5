package walls

import (
	"math/rand"
	"slices"
	"testing"

	"walls/api"
)

// A model plays one domain alone, in another way than the machine does: what is stored and what is marked is read off
// the events so far, all touches are kept, and instead of near caches it has for each line the cores that hold it.
// Memory is read off the events too: it is what they had stored when the line was last written.
type model struct {
	c       api.Config
	d       int
	ops     [][]api.Op
	first   []int // the first words, the shared ones behind its own
	lines   map[[2]int]int
	filled  map[[2]int]int // of each set and way: the number of events when it was filled
	touched map[int][]int
	holders map[int]map[int]bool
	sole    map[int]bool // whether the one holder of a line may store to it
	since   map[int]int  // of each line that is held: the number of events when a core last got it
	written map[int]int  // of each line that was written to memory: the number of events then
	queue   []int
	got     int // the services that the first of the queue got
	began   map[int]int
	done    map[int]int
	events  []api.Event
	serving []int // the service cycles to come
	time    int
	seen    map[string]int
}

func modelled(c api.Config, d int, ops [][]api.Op, first []int, seen map[string]int) *model {
	m := &model{c: c, d: d, ops: ops, first: first, serving: services(c, d), seen: seen}
	m.lines, m.filled, m.touched = map[[2]int]int{}, map[[2]int]int{}, map[int][]int{}
	m.holders, m.sole = map[int]map[int]bool{}, map[int]bool{}
	m.since, m.written = map[int]int{}, map[int]int{}
	m.began, m.done = map[int]int{}, map[int]int{}
	return m
}

// until lets cycles go by up to a time.
func (m *model) until(time int) {
	for ; m.time < time; m.time++ {
		t := m.time
		if (t+m.c.Flush)%m.c.Quantum == 0 {
			m.holders = map[int]map[int]bool{}
		}
		just := -1
		if t == m.serving[0] {
			m.serving = m.serving[1:]
			just = m.service(t)
		}
		for core := 0; core < m.c.Cores; core++ {
			if core != just {
				m.core(t, core)
			}
		}
	}
}

func (m *model) op(core int) api.Op { return m.ops[core][m.done[core]] }

func (m *model) fault(op api.Op) int {
	switch {
	case op.Addr < 0 || op.Addr >= len(m.first):
		return api.FaultRange
	case op.Kind == api.Store && op.Addr >= m.c.Private:
		return api.FaultStore
	}
	return api.NoFault
}

func (m *model) end(t, core int) {
	op := m.op(core)
	e := api.Event{Core: core, Index: m.done[core], Fault: m.fault(op), Issue: m.began[core], Done: t}
	if e.Fault == api.NoFault && op.Kind == api.Store {
		e.Value = op.Val
	} else if e.Fault == api.NoFault {
		e.Value = m.word(op.Addr, len(m.events))
	}
	m.events = append(m.events, e)
	m.done[core]++
	delete(m.began, core)
}

// word is what stands at an address behind some of the events.
func (m *model) word(a int, events int) int {
	v := m.first[a]
	for _, e := range m.events[:events] {
		op := m.ops[e.Core][e.Index]
		if op.Kind == api.Store && op.Addr == a && e.Fault == api.NoFault {
			v = e.Value
		}
	}
	return v
}

// stored tells whether one of the events from a number on stored to a line.
func (m *model) stored(x int, from int) bool {
	for _, e := range m.events[from:] {
		op := m.ops[e.Core][e.Index]
		if op.Kind == api.Store && e.Fault == api.NoFault && op.Addr/m.c.Line == x {
			return true
		}
	}
	return false
}

// memory is what stands in memory, address by address.
func (m *model) memory() []int {
	var list []int
	for a := range m.first {
		list = append(list, m.word(a, m.written[a/m.c.Line]))
	}
	return list
}

// far is what lies in the domain's ways.
func (m *model) far() []api.Block {
	var list []api.Block
	for set := 0; set < m.c.Sets; set++ {
		for way := 0; way < owners(m.c.Ways)[m.d]; way++ {
			at := [2]int{set, way}
			b := api.Block{Line: -1}
			if line, lies := m.lines[at]; lies {
				b = api.Block{Line: line, Marked: m.stored(line, m.filled[at])}
			}
			list = append(list, b)
		}
	}
	return list
}

// near is what lies of the domain in the near cache of a core.
func (m *model) near(core int) []api.Copy {
	list := slices.Repeat([]api.Copy{noCopy}, m.c.Near)
	for x, cores := range m.holders {
		if !cores[core] {
			continue
		}
		state := api.Common
		if m.sole[x] {
			state = api.Alone
		}
		if m.sole[x] && m.stored(x, m.since[x]) {
			state = api.Changed
		}
		list[x%m.c.Near] = api.Copy{Domain: m.d, Line: x, State: state}
	}
	return list
}

func (m *model) core(t, core int) {
	if since, busy := m.began[core]; busy {
		if m.fault(m.op(core)) != api.NoFault && t == since+2 {
			m.seen["fault"]++
			m.end(t, core)
		}
		return
	}
	list := m.c.Turns[core]
	left := m.c.Quantum - t%m.c.Quantum
	if list[t/m.c.Quantum%len(list)] != m.d || left <= m.c.Flush+3*m.c.Cores*len(m.c.Slots)*m.c.Slot || m.done[core] == len(m.ops[core]) {
		return
	}
	m.began[core] = t
	op := m.op(core)
	x := op.Addr / m.c.Line
	switch {
	case m.fault(op) != api.NoFault:
	case op.Kind == api.Load && m.holders[x][core]:
		m.seen["load at once"]++
		m.end(t, core)
	case op.Kind == api.Store && m.holders[x][core] && m.sole[x]:
		m.seen["store at once"]++
		m.end(t, core)
	default:
		if m.holders[x][core] {
			m.seen["store to a common copy"]++
		}
		m.queue = append(m.queue, core)
	}
}

// service gives the core at which an operation is done, or -1.
func (m *model) service(t int) int {
	if len(m.queue) == 0 {
		return -1
	}
	core := m.queue[0]
	op := m.op(core)
	x := op.Addr / m.c.Line
	m.got++
	set, ways := x%m.c.Sets, owners(m.c.Ways)[m.d]
	for way := 0; way < ways; way++ {
		if line, lies := m.lines[[2]int{set, way}]; lies && line == x {
			m.touched[set] = append(m.touched[set], way)
			m.hold(core, x, op)
			m.end(t, core)
			m.seen[[]string{"first", "second", "third", "more"}[min(m.got-1, 3)]]++
			m.seen["waiting"] += min(len(m.queue)-1, 1)
			m.queue, m.got = m.queue[1:], 0
			return core
		}
	}
	at := [2]int{set, 0}
	for at[1] < ways {
		if _, lies := m.lines[at]; !lies {
			break
		}
		at[1]++
	}
	if at[1] == ways {
		at[1] = byTree(ways, m.touched[set])
		old := m.lines[at]
		m.seen["taken from a core"] += min(len(m.holders[old]), 1)
		delete(m.holders, old)
		if m.stored(old, m.filled[at]) {
			m.written[old] = len(m.events)
			delete(m.lines, at)
			return -1
		}
	}
	m.lines[at], m.filled[at] = x, len(m.events)
	return -1
}

// hold notes that a core gets a copy: other lines at the same place are gone there.
func (m *model) hold(core, x int, op api.Op) {
	for line, cores := range m.holders {
		if line != x && line%m.c.Near == x%m.c.Near {
			delete(cores, core)
		}
	}
	m.since[x] = len(m.events)
	others := len(m.holders[x])
	if m.holders[x][core] {
		others--
	}
	if op.Kind == api.Store {
		m.seen["others go"] += min(others, 1)
		m.holders[x], m.sole[x] = map[int]bool{core: true}, true
		return
	}
	if others > 0 && m.sole[x] {
		m.seen["others become common"]++
	}
	if others == 0 {
		m.holders[x] = map[int]bool{}
	}
	m.holders[x][core] = true
	m.sole[x] = others == 0 && x*m.c.Line < m.c.Private
}

// A play is a configuration with programs and first words for all domains.
type play struct {
	c      api.Config
	ops    [][][]api.Op // of each domain, at each core
	own    [][]int
	shared []int
}

func drawnOps(r *rand.Rand, c api.Config) []api.Op {
	words := c.Private + c.Shared
	few := 1 + r.Intn(words)
	if r.Intn(2) == 0 {
		few = 1 + r.Intn(min(words, 8))
	}
	var list []api.Op
	for n := r.Intn(65); n > 0; n-- {
		op := api.Op{Kind: r.Intn(2), Addr: r.Intn(few), Val: r.Intn(1000)}
		switch r.Intn(16) {
		case 0:
			op.Addr = extremes[r.Intn(len(extremes))]
		case 1:
			op.Addr = []int{-1, 0, c.Private - 1, c.Private, words - 1, words}[r.Intn(6)]
		case 2:
			op.Kind, op.Addr = api.Load, words-1-r.Intn(min(words, 4))
		case 3:
			op.Addr = r.Intn(words)
		}
		list = append(list, op)
	}
	return list
}

// drawnRight makes a configuration that is right, in which cores and lines often meet.
func drawnRight(r *rand.Rand) api.Config {
	for {
		c := drawn(r)
		for d := 0; d < c.Domains && r.Intn(2) == 0; d++ {
			c.Ways = append(c.Ways, repeated(r.Intn(4), d)...)
		}
		r.Shuffle(len(c.Ways), func(i, j int) { c.Ways[i], c.Ways[j] = c.Ways[j], c.Ways[i] })
		if r.Intn(2) == 0 {
			c.Flush = c.Near + r.Intn(3)
			c.Quantum = 3*c.Cores*len(c.Slots)*c.Slot + c.Flush + 1 + r.Intn(400)
		}
		if r.Intn(2) == 0 {
			for core := range c.Turns {
				c.Turns[core] = []int{r.Intn(2)}
			}
		}
		if expected(c) == api.OK {
			return c
		}
	}
}

func drawnPlay(r *rand.Rand) play {
	p := play{c: drawnRight(r)}
	words := func(n int) []int {
		list := make([]int, n)
		for i := range list {
			list[i] = -r.Intn(1000)
		}
		return list
	}
	p.shared = words(p.c.Shared)
	for d := 0; d < p.c.Domains; d++ {
		var ops [][]api.Op
		for core := 0; core < p.c.Cores; core++ {
			ops = append(ops, drawnOps(r, p.c))
		}
		p.ops, p.own = append(p.ops, ops), append(p.own, words(p.c.Private))
	}
	return p
}

// set makes the machine of a play, before its first cycle.
func (p play) set(t *testing.T) *Machine {
	t.Helper()
	m := built(t, p.c)
	for a, v := range p.shared {
		fine(t, m.Share(a, v))
	}
	for d := range p.ops {
		for a, v := range p.own[d] {
			fine(t, m.Fill(d, a, v))
		}
		for core, ops := range p.ops[d] {
			fine(t, m.Give(d, core, ops))
		}
	}
	return m
}

// models gives a model of each domain of a play.
func (p play) models(seen map[string]int) []*model {
	var list []*model
	for d := range p.ops {
		list = append(list, modelled(p.c, d, p.ops[d], append(slices.Clone(p.own[d]), p.shared...), seen))
	}
	return list
}

func TestP12Modelled(t *testing.T) {
	r := rand.New(rand.NewSource(6))
	seen := map[string]int{}
	for i := 0; i < 1200; i++ {
		p := drawnPlay(r)
		want := p.models(seen)
		m := p.set(t)
		for m.Now() < 10000 {
			fine(t, m.Run(min(10000-m.Now(), r.Intn(3000))))
			for d := range want {
				want[d].until(m.Now())
				list, e := m.Trace(d)
				if e != api.OK || !slices.Equal(list, want[d].events) {
					t.Fatalf("P12 to P14: of %+v at the time %d Trace(%d) = %v, %d, want %v", p, m.Now(), d, list, e, want[d].events)
				}
			}
		}
	}
	for _, k := range []string{"fault", "load at once", "store at once", "store to a common copy", "first", "second", "third", "waiting", "others go", "others become common", "taken from a core"} {
		if seen[k] < 300 {
			t.Errorf("too few plays have this: %s, %d times", k, seen[k])
		}
	}
	if seen["more"] > 0 {
		t.Errorf("P13: %d requests took more than three services", seen["more"])
	}
}

// together lays what lies of all domains in a core's near cache over one another.
func together(t *testing.T, models []*model, core int) []api.Copy {
	t.Helper()
	all := slices.Repeat([]api.Copy{noCopy}, models[0].c.Near)
	for _, m := range models {
		for place, lies := range m.near(core) {
			if lies != noCopy && all[place] != noCopy {
				t.Fatalf("P18: of %+v at the time %d %v and %v lie at one place", m.c, m.time, lies, all[place])
			}
			if lies != noCopy {
				all[place] = lies
			}
		}
	}
	return all
}

func TestP15Modelled(t *testing.T) {
	r := rand.New(rand.NewSource(10))
	seen := map[string]int{}
	for i := 0; i < 900; i++ {
		p := drawnPlay(r)
		want := p.models(seen)
		m := p.set(t)
		for m.Now() < 10000 {
			nears(t, m, p, want, seen)
			for d := range want {
				fars(t, m, d, want[d].far()...)
				words(t, m, d, want[d].memory()...)
				seen["marked"] += len(slices.DeleteFunc(want[d].far(), func(b api.Block) bool { return !b.Marked }))
				seen["written"] += len(want[d].written)
			}
			step := 1 + r.Intn(30)
			if r.Intn(8) == 0 || m.Now() > 2000 {
				step = 1 + r.Intn(3000)
			}
			fine(t, m.Run(min(10000-m.Now(), step)))
			for d := range want {
				want[d].until(m.Now())
			}
			if t.Failed() {
				t.Fatalf("P15: it is so of %+v", p)
			}
		}
	}
	for _, k := range []string{"common", "alone", "changed", "marked", "written"} {
		if seen[k] < 2000 {
			t.Errorf("too few plays have this: %s, %d times", k, seen[k])
		}
	}
}

// nears holds all near caches against the models, and counts the states that lie there.
func nears(t *testing.T, m *Machine, p play, models []*model, seen map[string]int) {
	t.Helper()
	for core := 0; core < p.c.Cores; core++ {
		list := together(t, models, core)
		copies(t, m, core, list...)
		for _, lies := range list {
			seen[[]string{"empty", "common", "alone", "changed"}[lies.State]]++
		}
	}
}
