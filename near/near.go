// Package near keeps the near caches of all cores: which copies lie there, in which state.
// The words themselves lie in the far cache, where every line lies of which there is a near copy.
package near

import "walls/api"

// Caches are the near caches, core by core, place by place.
type Caches struct {
	cores [][]api.Copy
}

// New gives empty near caches for some cores, each with as many places.
func New(cores int, places int) Caches {
	var n Caches
	for core := 0; core < cores; core++ {
		var list []api.Copy
		for place := 0; place < places; place++ {
			list = append(list, empty())
		}
		n.cores = append(n.cores, list)
	}
	return n
}

func empty() api.Copy {
	return api.Copy{Domain: -1, Line: -1, State: api.None}
}

// Empty empties every near cache.
func (n *Caches) Empty() {
	for core := 0; core < len(n.cores); core++ {
		for place := 0; place < len(n.cores[core]); place++ {
			n.cores[core][place] = empty()
		}
	}
}

// place is where the line x can lie at a core, or -1 if there is no such core or line.
func (n *Caches) place(core int, x int) int {
	if core < 0 || core >= len(n.cores) || x < 0 {
		return -1
	}
	places := len(n.cores[core])
	if places == 0 {
		return -1
	}
	return x % places
}

// State is that of the copy of d's line x at a core, or None.
func (n *Caches) State(core int, d int, x int) int {
	place := n.place(core, x)
	if place < 0 {
		return api.None
	}
	lies := n.cores[core][place]
	if lies.Domain != d || lies.Line != x {
		return api.None
	}
	return lies.State
}

// Copies lists what lies at a core, place by place, or gives nil if there is no such core.
func (n *Caches) Copies(core int) []api.Copy {
	if core < 0 || core >= len(n.cores) {
		return nil
	}
	list := make([]api.Copy, len(n.cores[core]))
	copy(list, n.cores[core])
	return list
}

// Put lays a copy of d's line x at a core, in the place of what lay there.
func (n *Caches) Put(core int, d int, x int, state int) {
	place := n.place(core, x)
	if place < 0 {
		return
	}
	n.cores[core][place] = api.Copy{Domain: d, Line: x, State: state}
}

// Drop takes away the copy of d's line x at a core, if one lies there.
func (n *Caches) Drop(core int, d int, x int) {
	state := n.State(core, d, x)
	place := n.place(core, x)
	if state == api.None || place < 0 {
		return
	}
	n.cores[core][place] = empty()
}

// DropAll takes away all copies of d's line x.
func (n *Caches) DropAll(d int, x int) {
	for core := 0; core < len(n.cores); core++ {
		n.Drop(core, d, x)
	}
}

// DropOthers takes away all copies of d's line x but the one at a core.
func (n *Caches) DropOthers(core int, d int, x int) {
	for other := 0; other < len(n.cores); other++ {
		if other != core {
			n.Drop(other, d, x)
		}
	}
}

// ShareOthers makes all copies of d's line x Common but the one at a core, and tells whether there are any.
func (n *Caches) ShareOthers(core int, d int, x int) bool {
	found := false
	for other := 0; other < len(n.cores); other++ {
		if other == core {
			continue
		}
		state := n.State(other, d, x)
		if state != api.None {
			n.Put(other, d, x, api.Common)
			found = true
		}
	}
	return found
}
