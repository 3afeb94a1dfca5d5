package machine

import (
	"math/rand"
	"testing"

	"walls/api"
	"walls/far"
)

func load(a int) api.Op         { return api.Op{Kind: api.Load, Addr: a} }
func store(a int, v int) api.Op { return api.Op{Kind: api.Store, Addr: a, Val: v} }

func built(t *testing.T, c api.Config) *Machine {
	t.Helper()
	m, e := New(c)
	if e != api.OK {
		t.Fatalf("P8: New = %d", e)
	}
	return &m
}

func given(t *testing.T, m *Machine, d, core int, ops ...api.Op) {
	t.Helper()
	if e := m.Give(d, core, ops); e != api.OK {
		t.Fatalf("P9: Give = %d", e)
	}
}

// lies holds the state of a near copy, and what lies of its line in the far cache, against what they must be.
func lies(t *testing.T, m *Machine, core, d, x int, state int, inFar, marked bool) {
	t.Helper()
	if s := m.near.State(core, d, x); s != state {
		t.Errorf("P13: at the time %d the copy of the line %d of %d at the core %d is %d, want %d", m.now, x, d, core, s, state)
	}
	way := m.domains[d].far.Find(x)
	if b := m.domains[d].far.At(x, way); (way != far.Nothing) != inFar || b.Marked != marked {
		t.Errorf("P13: at the time %d of the line %d of %d there lies in the far cache %+v, way %d", m.now, x, d, b, way)
	}
}

func confA() api.Config {
	return api.Config{Cores: 1, Domains: 1, Line: 1, Private: 4, Shared: 2, Near: 1, Sets: 1,
		Ways: []int{0}, Slot: 1, Slots: []int{0}, Turns: [][]int{{0}}, Quantum: 10, Flush: 1}
}

func confB() api.Config {
	return api.Config{Cores: 2, Domains: 2, Line: 2, Private: 4, Shared: 2, Near: 2, Sets: 1,
		Ways: []int{0, 1, 0}, Slot: 2, Slots: []int{0, 1}, Turns: [][]int{{0}, {0, 1}}, Quantum: 40, Flush: 2}
}

// The document's first example, cycle by cycle.
func TestP12CachesA(t *testing.T) {
	m := built(t, confA())
	m.Fill(0, 1, 5)
	m.Share(0, 9)
	given(t, m, 0, 0, load(0), load(0), store(0, 7), load(1), load(4), store(4, 1), load(9))
	lies(t, m, 0, 0, 0, api.None, false, false)
	m.Run(2)
	lies(t, m, 0, 0, 0, api.None, true, false)
	m.Run(1)
	lies(t, m, 0, 0, 0, api.Alone, true, false)
	m.Run(2)
	lies(t, m, 0, 0, 0, api.Changed, true, true)
	if v := m.memory.Word(0, 0); v != 0 {
		t.Errorf("P13: before the line is written to memory there stands %d", v)
	}
	m.Run(2)
	lies(t, m, 0, 0, 0, api.None, false, false)
	if v := m.memory.Word(0, 0); v != 7 {
		t.Errorf("P13: when the line was written to memory there stands %d", v)
	}
	m.Run(2)
	lies(t, m, 0, 0, 1, api.Alone, true, false)
	m.Run(1)
	lies(t, m, 0, 0, 1, api.None, true, false)
	m.Run(3)
	lies(t, m, 0, 0, 4, api.Common, true, false) // a shared line
}

func TestP12CachesB(t *testing.T) {
	m := built(t, confB())
	given(t, m, 0, 0, store(0, 5), load(2))
	given(t, m, 0, 1, load(1), store(1, 6), load(4))
	m.Run(6)
	lies(t, m, 0, 0, 0, api.Changed, true, true)
	m.Run(4)
	lies(t, m, 0, 0, 0, api.Common, true, true)
	lies(t, m, 1, 0, 0, api.Common, true, true)
	m.Run(12)
	lies(t, m, 0, 0, 0, api.None, true, true)
	lies(t, m, 0, 0, 1, api.Alone, true, false)
	lies(t, m, 1, 0, 0, api.Changed, true, true)
	m.Run(17)
	lies(t, m, 0, 0, 1, api.None, true, false)
	lies(t, m, 1, 0, 0, api.None, true, true)
}

// walled holds what lies in the caches against P19.
func walled(t *testing.T, m *Machine) {
	t.Helper()
	for d := range m.domains {
		for x := 0; x < (m.conf.Private+m.conf.Shared)/m.conf.Line; x++ {
			shared := x*m.conf.Line >= m.conf.Private
			way := m.domains[d].far.Find(x)
			block := m.domains[d].far.At(x, way)
			copies, sole := 0, 0
			for core := range m.cores {
				state := m.near.State(core, d, x)
				if state != api.None {
					copies++
				}
				if state == api.Alone || state == api.Changed {
					sole++
				}
				if state == api.Changed && !block.Marked {
					t.Fatalf("P13: of %+v at the time %d the line %d of %d is Changed, but not marked", m.conf, m.now, x, d)
				}
			}
			if sole > 1 || (sole == 1 && copies > 1) || (shared && (sole > 0 || block.Marked)) || (copies > 0 && way == far.Nothing) {
				t.Fatalf("P19: of %+v at the time %d: line %d of %d, %d copies, %d of them alone, in the far cache %+v", m.conf, m.now, x, d, copies, sole, block)
			}
			if way != far.Nothing && !block.Marked && block.Words != m.memory.Read(d, x) {
				t.Fatalf("P19: of %+v at the time %d the line %d of %d is not marked, but %v, in memory %v", m.conf, m.now, x, d, block.Words, m.memory.Read(d, x))
			}
		}
	}
}

func TestP19Drawn(t *testing.T) {
	r := rand.New(rand.NewSource(1))
	pick := func(of ...int) int { return of[r.Intn(len(of))] }
	for i := 0; i < 150; i++ {
		c := api.Config{Cores: 3, Domains: 2, Line: pick(1, 2, 4), Near: pick(1, 2, 4), Sets: pick(1, 2, 4),
			Ways: [][]int{{0, 1}, {0, 1, 0}, {1, 0, 0, 0, 1, 0}}[r.Intn(3)], Slot: pick(1, 2), Slots: []int{0, 1},
			Turns: [][]int{{0, 1}, {0, 1, 0}, {0}}, Flush: pick(4, 7), Quantum: pick(50, 99, 400)}
		c.Private, c.Shared = c.Line*pick(1, 3, 5), c.Line*pick(0, 1, 2)
		m := built(t, c)
		for d := 0; d < 2; d++ {
			for core := 0; core < 3; core++ {
				var ops []api.Op
				for n := 0; n < 40; n++ {
					ops = append(ops, api.Op{Kind: r.Intn(2), Addr: r.Intn(c.Private+c.Shared+2) - 1, Val: n})
				}
				given(t, m, d, core, ops...)
			}
		}
		for m.Now() < 2000 {
			m.Run(1)
			walled(t, m)
		}
	}
}
