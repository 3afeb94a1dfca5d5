package walls

import (
	"math/rand"
	"slices"
	"testing"

	"walls/api"
)

// inTime holds a trace against the first half of P16.
func inTime(t *testing.T, c api.Config, events []api.Event) {
	t.Helper()
	w, _ := Worst(c)
	for _, e := range events {
		if e.Done < e.Issue || e.Done > e.Issue+w {
			t.Fatalf("P16: %+v of %+v, where W is %d", e, c, w)
		}
	}
}

// enough runs for as long as Enough says, and counts what is done.
func enough(t *testing.T, p play, core, d, k int) {
	t.Helper()
	n, e := Enough(p.c, core, d, k)
	if e != api.OK || n > 10000 {
		return
	}
	m := p.set(t)
	fine(t, m.Run(n))
	list, _ := m.Trace(d)
	done := 0
	for _, ev := range list {
		if ev.Core == core && ev.Index != done {
			t.Fatalf("P14: %+v of %+v, but %d were done", ev, p, done)
		}
		if ev.Core == core {
			done++
		}
	}
	if done < min(k, len(p.ops[d][core])) {
		t.Fatalf("P16: of %+v domain %d has done %d operations at core %d in %d cycles, want %d", p, d, done, core, n, k)
	}
}

func TestP16Drawn(t *testing.T) {
	r := rand.New(rand.NewSource(7))
	for i := 0; i < 500; i++ {
		p := drawnPlay(r)
		m := p.set(t)
		fine(t, m.Run(10000))
		for d := range p.ops {
			list, _ := m.Trace(d)
			inTime(t, p.c, list)
			for core := range p.ops[d] {
				enough(t, p, core, d, r.Intn(65))
			}
		}
	}
}

func TestP17Drawn(t *testing.T) {
	r := rand.New(rand.NewSource(8))
	for i := 0; i < 500; i++ {
		p := drawnPlay(r)
		m := p.set(t)
		fine(t, m.Run(10000))
		for d := range p.ops {
			words := append(slices.Clone(p.own[d]), p.shared...)
			list, _ := m.Trace(d)
			for _, e := range list {
				op := p.ops[d][e.Core][e.Index]
				if e.Fault == api.NoFault && op.Kind == api.Store {
					words[op.Addr] = op.Val
				}
				if (e.Fault == api.NoFault && e.Value != words[op.Addr]) || (e.Fault != api.NoFault && e.Value != 0) {
					t.Fatalf("P17: of %+v domain %d has the event %+v", p, d, e)
				}
			}
		}
	}
}

// others gives all domains but one other programs and other words.
func (p play) others(r *rand.Rand, d int) play {
	q := play{c: p.c, shared: p.shared, ops: slices.Clone(p.ops), own: slices.Clone(p.own)}
	for other := range q.ops {
		if other == d {
			continue
		}
		q.ops[other] = nil
		for core := 0; core < p.c.Cores; core++ {
			q.ops[other] = append(q.ops[other], drawnOps(r, p.c))
		}
		q.own[other] = repeated(p.c.Private, r.Intn(1000))
	}
	return q
}

func TestP18Drawn(t *testing.T) {
	r := rand.New(rand.NewSource(9))
	for i := 0; i < 300; i++ {
		p := drawnPlay(r)
		for d := range p.ops {
			q := p.others(r, d)
			m, n := p.set(t), q.set(t)
			for m.Now() < 10000 {
				alike(t, m, n, d)
				step := min(10000-m.Now(), 1+r.Intn(100+4*m.Now()))
				fine(t, m.Run(step))
				fine(t, n.Run(step))
			}
			alike(t, m, n, d)
			if t.Failed() {
				t.Fatalf("P18: it is so of %+v", p)
			}
		}
	}
}

// soleOnes holds the near copies of a machine against P19: by domain and line, they are counted, and those that must be
// the only one.
func soleOnes(t *testing.T, m *Machine, c api.Config) {
	t.Helper()
	copies, sole := map[[2]int]int{}, map[[2]int]int{}
	for core := 0; core < c.Cores; core++ {
		list, _ := m.Near(core)
		for place, lies := range list {
			if lies == noCopy {
				continue
			}
			if lies.Line%c.Near != place || lies.State < api.Common || lies.State > api.Changed {
				t.Fatalf("P15: of %+v at the time %d there lies %v at the place %d", c, m.Now(), lies, place)
			}
			at := [2]int{lies.Domain, lies.Line}
			copies[at]++
			if lies.State != api.Common {
				sole[at]++
			}
			far, _ := m.Far(lies.Domain)
			if !slices.Contains(far, block(lies.Line, true)) && (lies.State == api.Changed || !slices.Contains(far, block(lies.Line, false))) {
				t.Fatalf("P19: of %+v at the time %d there lies %v at the core %d, in the far cache %v", c, m.Now(), lies, core, far)
			}
			if lies.Line*c.Line >= c.Private && lies.State != api.Common {
				t.Fatalf("P19: of %+v at the time %d a copy of a shared line is %v", c, m.Now(), lies)
			}
		}
	}
	for at := range sole {
		if copies[at] > 1 {
			t.Fatalf("P19: of %+v at the time %d there are %d copies of the line %d of %d", c, m.Now(), copies[at], at[1], at[0])
		}
	}
}

// stands holds memory against P19: words is what a domain's words are, by what is done.
func stands(t *testing.T, m *Machine, c api.Config, d int, words []int) {
	t.Helper()
	far, _ := m.Far(d)
	marked := map[int]bool{}
	lines := map[int]int{}
	for i, b := range far {
		if b == noBlock {
			continue
		}
		marked[b.Line] = b.Marked
		lines[b.Line]++
		if lines[b.Line] > 1 || b.Line%c.Sets != i/(len(far)/c.Sets) {
			t.Fatalf("P15: of %+v at the time %d Far(%d) is %v", c, m.Now(), d, far)
		}
		if b.Marked && b.Line*c.Line >= c.Private {
			t.Fatalf("P19: of %+v at the time %d the shared line %d of %d is marked", c, m.Now(), b.Line, d)
		}
	}
	for a := range words {
		v, e := m.Memory(d, a)
		if e != api.OK || (v != words[a] && !marked[a/c.Line]) {
			t.Fatalf("P19: of %+v at the time %d Memory(%d, %d) is %d, %d, the word is %d", c, m.Now(), d, a, v, e, words[a])
		}
	}
}

func TestP19Drawn(t *testing.T) {
	r := rand.New(rand.NewSource(11))
	for i := 0; i < 200; i++ {
		p := drawnPlay(r)
		m := p.set(t)
		for m.Now() < 10000 {
			soleOnes(t, m, p.c)
			for d := range p.ops {
				words := append(slices.Clone(p.own[d]), p.shared...)
				list, _ := m.Trace(d)
				for _, e := range list {
					op := p.ops[d][e.Core][e.Index]
					if e.Fault == api.NoFault && op.Kind == api.Store {
						words[op.Addr] = op.Val
					}
				}
				stands(t, m, p.c, d, words)
			}
			step := 1
			if m.Now() > 500 {
				step = 1 + r.Intn(500)
			}
			fine(t, m.Run(min(10000-m.Now(), step)))
		}
	}
}
