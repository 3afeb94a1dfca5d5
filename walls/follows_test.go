package walls

import (
	"math/rand"
	"slices"
	"testing"

	"walls/api"
)

// inTime holds a trace against the first half of P16.
func inTime(t *testing.T, c api.Config, events []api.Event) {
	t.Helper()
	w, _ := Worst(c)
	for _, e := range events {
		if e.Done < e.Issue || e.Done > e.Issue+w {
			t.Fatalf("P16: %+v of %+v, where W is %d", e, c, w)
		}
	}
}

// enough runs for as long as Enough says, and counts what is done.
func enough(t *testing.T, p play, core, d, k int) {
	t.Helper()
	n, e := Enough(p.c, core, d, k)
	if e != api.OK || n > 10000 {
		return
	}
	m := p.set(t)
	fine(t, m.Run(n))
	list, _ := m.Trace(d)
	done := 0
	for _, ev := range list {
		if ev.Core == core && ev.Index != done {
			t.Fatalf("P14: %+v of %+v, but %d were done", ev, p, done)
		}
		if ev.Core == core {
			done++
		}
	}
	if done < min(k, len(p.ops[d][core])) {
		t.Fatalf("P16: of %+v domain %d has done %d operations at core %d in %d cycles, want %d", p, d, done, core, n, k)
	}
}

func TestP16Drawn(t *testing.T) {
	r := rand.New(rand.NewSource(7))
	for i := 0; i < 500; i++ {
		p := drawnPlay(r)
		m := p.set(t)
		fine(t, m.Run(10000))
		for d := range p.ops {
			list, _ := m.Trace(d)
			inTime(t, p.c, list)
			for core := range p.ops[d] {
				enough(t, p, core, d, r.Intn(65))
			}
		}
	}
}

func TestP17Drawn(t *testing.T) {
	r := rand.New(rand.NewSource(8))
	for i := 0; i < 500; i++ {
		p := drawnPlay(r)
		m := p.set(t)
		fine(t, m.Run(10000))
		for d := range p.ops {
			words := append(slices.Clone(p.own[d]), p.shared...)
			list, _ := m.Trace(d)
			for _, e := range list {
				op := p.ops[d][e.Core][e.Index]
				if e.Fault == api.NoFault && op.Kind == api.Store {
					words[op.Addr] = op.Val
				}
				if (e.Fault == api.NoFault && e.Value != words[op.Addr]) || (e.Fault != api.NoFault && e.Value != 0) {
					t.Fatalf("P17: of %+v domain %d has the event %+v", p, d, e)
				}
			}
		}
	}
}

// others gives all domains but one other programs and other words.
func (p play) others(r *rand.Rand, d int) play {
	q := play{c: p.c, shared: p.shared, ops: slices.Clone(p.ops), own: slices.Clone(p.own)}
	for other := range q.ops {
		if other == d {
			continue
		}
		q.ops[other] = nil
		for core := 0; core < p.c.Cores; core++ {
			q.ops[other] = append(q.ops[other], drawnOps(r, p.c))
		}
		q.own[other] = repeated(p.c.Private, r.Intn(1000))
	}
	return q
}

func TestP18Drawn(t *testing.T) {
	r := rand.New(rand.NewSource(9))
	for i := 0; i < 300; i++ {
		p := drawnPlay(r)
		for d := range p.ops {
			q := p.others(r, d)
			m, n := p.set(t), q.set(t)
			for m.Now() < 10000 {
				step := min(10000-m.Now(), 1+r.Intn(4000))
				fine(t, m.Run(step))
				fine(t, n.Run(step))
				want, _ := m.Trace(d)
				traced(t, n, d, want...)
			}
		}
	}
}
