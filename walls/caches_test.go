package walls

import (
	"math"
	"slices"
	"testing"

	"walls/api"
)

// noCopy is an empty place of a near cache, noBlock an empty way of the far cache.
var noCopy = api.Copy{Domain: -1, Line: -1, State: api.None}
var noBlock = api.Block{Line: -1, Marked: false}

func lying(d, x, state int) api.Copy     { return api.Copy{Domain: d, Line: x, State: state} }
func block(x int, marked bool) api.Block { return api.Block{Line: x, Marked: marked} }

// copies holds a core's near cache against what it must be.
func copies(t *testing.T, m *Machine, core int, want ...api.Copy) {
	t.Helper()
	list, e := m.Near(core)
	if e != api.OK || !slices.Equal(list, want) {
		t.Errorf("P15: at the time %d Near(%d) = %v, %d, want %v", m.Now(), core, list, e, want)
	}
}

// fars holds a domain's ways of the far cache against what they must be.
func fars(t *testing.T, m *Machine, d int, want ...api.Block) {
	t.Helper()
	list, e := m.Far(d)
	if e != api.OK || !slices.Equal(list, want) {
		t.Errorf("P15: at the time %d Far(%d) = %v, %d, want %v", m.Now(), d, list, e, want)
	}
}

// words holds what stands in memory against what must be there, from a domain's address 0 on.
func words(t *testing.T, m *Machine, d int, want ...int) {
	t.Helper()
	for a := range want {
		if v, e := m.Memory(d, a); v != want[a] || e != api.OK {
			t.Errorf("P15: at the time %d Memory(%d, %d) = %d, %d, want %d", m.Now(), d, a, v, e, want[a])
		}
	}
}

func TestP15ExampleA(t *testing.T) {
	for _, k := range []struct {
		from, to int // the times at which all this holds
		near     api.Copy
		far      api.Block
		words    []int
	}{
		{0, 1, noCopy, noBlock, []int{0, 5, 0, 0, 9, 0}},
		{2, 2, noCopy, block(0, false), []int{0, 5, 0, 0, 9, 0}},
		{3, 4, lying(0, 0, api.Alone), block(0, false), []int{0, 5, 0, 0, 9, 0}},
		{5, 6, lying(0, 0, api.Changed), block(0, true), []int{0, 5, 0, 0, 9, 0}},
		{7, 7, noCopy, noBlock, []int{7, 5, 0, 0, 9, 0}},
		{8, 8, noCopy, block(1, false), []int{7, 5, 0, 0, 9, 0}},
		{9, 9, lying(0, 1, api.Alone), block(1, false), []int{7, 5, 0, 0, 9, 0}},
		{10, 11, noCopy, block(1, false), []int{7, 5, 0, 0, 9, 0}},
		{12, 12, noCopy, block(4, false), []int{7, 5, 0, 0, 9, 0}},
		{13, 19, lying(0, 4, api.Common), block(4, false), []int{7, 5, 0, 0, 9, 0}},
		{20, 100, noCopy, block(4, false), []int{7, 5, 0, 0, 9, 0}},
	} {
		for time := k.from; time <= k.to; time++ {
			m := exampleA(t)
			fine(t, m.Run(time))
			copies(t, m, 0, k.near)
			fars(t, m, 0, k.far)
			words(t, m, 0, k.words...)
		}
	}
}

func TestP15ExampleB(t *testing.T) {
	m := exampleB(t)
	common, changed := lying(0, 0, api.Common), lying(0, 0, api.Changed)
	for _, k := range []struct {
		until int // from the time before on up to this one
		near  [2][]api.Copy
		far   []api.Block
	}{
		{1, [2][]api.Copy{{noCopy, noCopy}, {noCopy, noCopy}}, []api.Block{noBlock, noBlock}},
		{5, [2][]api.Copy{{noCopy, noCopy}, {noCopy, noCopy}}, []api.Block{block(0, false), noBlock}},
		{9, [2][]api.Copy{{changed, noCopy}, {noCopy, noCopy}}, []api.Block{block(0, true), noBlock}},
		{13, [2][]api.Copy{{common, noCopy}, {common, noCopy}}, []api.Block{block(0, true), noBlock}},
		{17, [2][]api.Copy{{common, noCopy}, {common, noCopy}}, []api.Block{block(0, true), block(1, false)}},
		{21, [2][]api.Copy{{common, lying(0, 1, api.Alone)}, {common, noCopy}}, []api.Block{block(0, true), block(1, false)}},
		{38, [2][]api.Copy{{noCopy, lying(0, 1, api.Alone)}, {changed, noCopy}}, []api.Block{block(0, true), block(1, false)}},
		{81, [2][]api.Copy{{noCopy, noCopy}, {noCopy, noCopy}}, []api.Block{block(0, true), block(1, false)}},
		{85, [2][]api.Copy{{noCopy, noCopy}, {noCopy, noCopy}}, []api.Block{block(0, true), block(2, false)}},
		{118, [2][]api.Copy{{noCopy, noCopy}, {lying(0, 2, api.Common), noCopy}}, []api.Block{block(0, true), block(2, false)}},
		{200, [2][]api.Copy{{noCopy, noCopy}, {noCopy, noCopy}}, []api.Block{block(0, true), block(2, false)}},
	} {
		for m.Now() <= k.until {
			copies(t, m, 0, k.near[0]...)
			copies(t, m, 1, k.near[1]...)
			fars(t, m, 0, k.far...)
			fars(t, m, 1, noBlock)
			words(t, m, 0, 0, 0, 0, 0, 0, 0)
			fine(t, m.Run(1))
		}
	}
}

func TestP15Errors(t *testing.T) {
	none := confB()
	none.Shared = 0
	wrong := []int{math.MinInt, math.MinInt + 1, -1 << 32, -2, -1, 1 << 31, 1 << 32, 1 << 62, math.MaxInt - 1, math.MaxInt}
	for _, k := range []struct {
		c                    api.Config
		cores, domains, most int
	}{{confA(), 1, 1, 6}, {confB(), 2, 2, 6}, {none, 2, 2, 4}, {confMost(), 3, 4, 96}} {
		for _, time := range []int{0, 30, 10000} {
			m := built(t, k.c)
			fine(t, m.Run(time))
			for _, core := range append(slices.Clone(wrong), k.cores, k.cores+1) {
				if list, e := m.Near(core); list != nil || e != api.ErrArg {
					t.Errorf("P15: Near(%d) = %v, %d, want nil, ErrArg", core, list, e)
				}
			}
			for _, d := range append(slices.Clone(wrong), k.domains, k.domains+1) {
				if list, e := m.Far(d); list != nil || e != api.ErrArg {
					t.Errorf("P15: Far(%d) = %v, %d, want nil, ErrArg", d, list, e)
				}
				for _, a := range []int{0, 1, k.most - 1, k.most, -1} {
					if v, e := m.Memory(d, a); v != 0 || e != api.ErrArg {
						t.Errorf("P15: Memory(%d, %d) = %d, %d, want 0, ErrArg", d, a, v, e)
					}
				}
			}
			for _, a := range append(slices.Clone(wrong), k.most, k.most+1) {
				if v, e := m.Memory(0, a); v != 0 || e != api.ErrArg {
					t.Errorf("P15: Memory(0, %d) = %d, %d, want 0, ErrArg", a, v, e)
				}
			}
			if v, e := m.Memory(k.domains-1, k.most-1); v != 0 || e != api.OK {
				t.Errorf("P15: Memory(%d, %d) = %d, %d, want 0, OK", k.domains-1, k.most-1, v, e)
			}
		}
	}
}

// Nothing lies in the caches of a machine in which nothing was done, and there is a place for each place and way.
func TestP15Nothing(t *testing.T) {
	most := confMost()
	most.Domains, most.Ways, most.Slots = 3, []int{2, 1, 1, 2, 2, 0, 2}, []int{2, 1, 0}
	most.Turns = [][]int{{0}, {1, -1}, {2, 2}}
	ways := []int{1, 2, 4}
	for _, time := range []int{0, 1, 1984, 1985, 10000} {
		m := built(t, most)
		fine(t, m.Run(time))
		for core := 0; core < 3; core++ {
			copies(t, m, core, slices.Repeat([]api.Copy{noCopy}, 4)...)
		}
		for d := range ways {
			fars(t, m, d, slices.Repeat([]api.Block{noBlock}, 4*ways[d])...)
			words(t, m, d, repeated(96, 0)...)
		}
	}
}

// The sets come one behind the other, and in each the ways of the domain alone, in their order.
func TestP15Order(t *testing.T) {
	c := confA()
	c.Domains, c.Private, c.Shared, c.Near, c.Sets, c.Flush, c.Quantum = 2, 16, 0, 4, 4, 4, 200
	c.Ways, c.Slots = []int{1, 0, 1, 0}, []int{0, 1}
	m := built(t, c)
	fine(t, m.Give(0, 0, []api.Op{load(2), store(6, 1), load(0), store(7, 2), load(1), load(5)}))
	fine(t, m.Run(100))
	fars(t, m, 0, block(0, false), noBlock, block(1, false), block(5, false), block(2, false), block(6, true), block(7, true), noBlock)
	fars(t, m, 1, slices.Repeat([]api.Block{noBlock}, 8)...)
	copies(t, m, 0, lying(0, 0, api.Alone), lying(0, 5, api.Alone), lying(0, 6, api.Changed), lying(0, 7, api.Changed))
	words(t, m, 0, repeated(16, 0)...)
}

// Each domain has its own lines and words, though their numbers are the same; a near cache tells whose its copies are.
func TestP15Domains(t *testing.T) {
	c := confB()
	c.Turns = [][]int{{0}, {1}}
	m := built(t, c)
	for d := 0; d < 2; d++ {
		for a := 0; a < 4; a++ {
			fine(t, m.Fill(d, a, 10*d+a))
		}
	}
	fine(t, m.Share(0, 50))
	fine(t, m.Share(1, 51))
	fine(t, m.Give(0, 0, []api.Op{store(0, 77)}))
	fine(t, m.Give(1, 1, []api.Op{load(0), load(2), load(5)}))
	fine(t, m.Run(10))
	copies(t, m, 0, lying(0, 0, api.Changed), noCopy)
	copies(t, m, 1, lying(1, 0, api.Alone), noCopy)
	fars(t, m, 0, block(0, true), noBlock)
	fars(t, m, 1, block(0, false))
	fine(t, m.Run(20))
	copies(t, m, 0, lying(0, 0, api.Changed), noCopy)
	fars(t, m, 0, block(0, true), noBlock)
	fine(t, m.Run(170))
	fars(t, m, 1, block(2, false))
	words(t, m, 0, 0, 1, 2, 3, 50, 51)
	words(t, m, 1, 10, 11, 12, 13, 50, 51)
}

// Memory has what the line was when it was last written there: all of its words, but nothing that was stored since.
func TestP15Memory(t *testing.T) {
	c := confA()
	c.Line, c.Private, c.Shared, c.Quantum = 2, 4, 2, 200
	m := built(t, c)
	for a := 0; a < 4; a++ {
		fine(t, m.Fill(0, a, a+1))
	}
	fine(t, m.Share(1, 6))
	fine(t, m.Give(0, 0, []api.Op{store(1, 11), load(2), store(0, 20), store(1, 21), store(0, 22), load(3), load(4), store(3, 33)}))
	first, then := []int{1, 2, 3, 4, 0, 6}, []int{1, 11, 3, 4, 0, 6}
	last := []int{22, 21, 3, 4, 0, 6}
	for _, k := range []struct {
		until int // from the time before on up to this one
		far   api.Block
		words []int
	}{
		{1, noBlock, first}, {2, block(0, false), first}, {4, block(0, true), first},
		{5, noBlock, then}, {8, block(1, false), then}, {9, block(0, false), then}, {13, block(0, true), then},
		{14, noBlock, last}, {17, block(1, false), last}, {20, block(2, false), last}, {21, block(1, false), last}, {500, block(1, true), last},
	} {
		for m.Now() <= k.until {
			fars(t, m, 0, k.far)
			words(t, m, 0, k.words...)
			fine(t, m.Run(1))
		}
	}
}

// A line that is filled in again is not marked, though it was stored to before; a copy that comes back from the far
// cache is Alone, though the line is marked.
func TestP15Again(t *testing.T) {
	c := confA()
	c.Quantum, c.Ways = 200, []int{0, 0}
	m := built(t, c)
	fine(t, m.Give(0, 0, []api.Op{store(0, 3), load(1), load(0), load(2), load(3), load(0)}))
	for _, k := range []struct {
		until int
		near  api.Copy
		far   []api.Block
		word  int
	}{
		{8, lying(0, 0, api.Alone), []api.Block{block(0, true), block(1, false)}, 0},
		{11, lying(0, 2, api.Alone), []api.Block{block(0, true), block(2, false)}, 0},
		{15, lying(0, 3, api.Alone), []api.Block{block(3, false), block(2, false)}, 3},
		{18, lying(0, 0, api.Alone), []api.Block{block(3, false), block(0, false)}, 3},
	} {
		fine(t, m.Run(k.until-m.Now()))
		copies(t, m, 0, k.near)
		fars(t, m, 0, k.far...)
		words(t, m, 0, k.word)
	}
}

// What the first words are is what stands in memory at once, at the address of each; the shared ones for all domains.
func TestP15First(t *testing.T) {
	m := built(t, confMost())
	for i := 1; i <= 2; i++ {
		for d := 0; d < 4; d++ {
			var want []int
			for a := 0; a < 64; a++ {
				fine(t, m.Fill(d, a, i*(100*d+a)))
				want = append(want, i*(100*d+a))
			}
			words(t, m, d, want...)
		}
		for a := 0; a < 32; a++ {
			fine(t, m.Share(a, -i*a))
			for d := 0; d < 4; d++ {
				if v, e := m.Memory(d, 64+a); v != -i*a || e != api.OK {
					t.Errorf("P15: Memory(%d, %d) = %d, %d, want %d", d, 64+a, v, e, -i*a)
				}
			}
		}
	}
}

// The lists that come out are the caller's, with their spare room, and to ask changes nothing.
func TestP2Caches(t *testing.T) {
	m, twin := exampleB(t), exampleB(t)
	for time := 0; time <= 200; time++ {
		for k := 0; k < 2; k++ {
			near, e := m.Near(k)
			fine(t, e)
			far, e := m.Far(k)
			fine(t, e)
			_, e = m.Memory(k, k)
			fine(t, e)
			for _, list := range [][]api.Copy{near[:cap(near)], append(near, near...)} {
				for i := range list {
					list[i] = lying(8, 8, 8)
				}
			}
			for _, list := range [][]api.Block{far[:cap(far)], append(far, far...)} {
				for i := range list {
					list[i] = block(8, true)
				}
			}
		}
		alike(t, m, twin, 0)
		alike(t, m, twin, 1)
		fine(t, m.Run(1))
		fine(t, twin.Run(1))
	}
	traced(t, m, 0, traceB...)
}

// A list that came out stays as it is, whatever goes on in the machine.
func TestP2CachesKept(t *testing.T) {
	m := exampleB(t)
	fine(t, m.Run(22))
	near, _ := m.Near(1)
	far, _ := m.Far(0)
	fine(t, m.Run(100))
	if !slices.Equal(near, []api.Copy{lying(0, 0, api.Changed), noCopy}) || !slices.Equal(far, []api.Block{block(0, true), block(1, false)}) {
		t.Errorf("P2: lists that came out were written into: %v, %v", near, far)
	}
}

// liesOf lists what lies of a domain in a core's near cache.
func liesOf(m *Machine, core, d int) []api.Copy {
	list, _ := m.Near(core)
	for place := range list {
		if list[place].Domain != d {
			list[place] = noCopy
		}
	}
	return list
}

// alike holds all that a machine tells of a domain against what another of the same configuration tells.
func alike(t *testing.T, m, n *Machine, d int) {
	t.Helper()
	want, _ := m.Trace(d)
	traced(t, n, d, want...)
	far, _ := m.Far(d)
	fars(t, n, d, far...)
	var memory []int
	for v, e := m.Memory(d, 0); e == api.OK; v, e = m.Memory(d, len(memory)) {
		memory = append(memory, v)
	}
	words(t, n, d, memory...)
	for core := 0; core < api.MaxCores; core++ {
		if !slices.Equal(liesOf(m, core, d), liesOf(n, core, d)) {
			t.Errorf("P18: at the time %d there lies of %d at the core %d %v, of the other machine %v", m.Now(), d, core, liesOf(m, core, d), liesOf(n, core, d))
		}
	}
}
