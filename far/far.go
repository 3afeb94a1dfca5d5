// Package far keeps what lies in the far cache in the ways of one domain.
package far

import (
	"walls/api"
	"walls/memory"
	"walls/ways"
)

// Nothing stands for a line or a way that is not there.
const Nothing = -1

// Block is what lies in a way. Its words are newer than those in memory, if it is marked.
type Block struct {
	Line   int
	Marked bool
	Words  memory.Words
}

// A set's touched has each way that was ever touched just once, the last touched one last:
// on earlier touches of the same way nothing hangs any more.
type set struct {
	blocks  []Block
	touched []int
}

// Cache is a domain's part of the far cache.
type Cache struct {
	sets []set
}

// New gives a part of some sets with some ways each, in which nothing lies.
func New(sets int, owned int) Cache {
	var c Cache
	for s := 0; s < sets; s++ {
		var fresh set
		for w := 0; w < owned; w++ {
			fresh.blocks = append(fresh.blocks, Empty())
		}
		c.sets = append(c.sets, fresh)
	}
	return c
}

// Empty is the block of a way in which nothing lies.
func Empty() Block {
	return Block{Line: Nothing}
}

// setOf is the number of the set in which the line x can lie.
func (c *Cache) setOf(x int) int {
	if x < 0 || len(c.sets) == 0 {
		return Nothing
	}
	return x % len(c.sets)
}

// Find tells the way in which the line x lies, or Nothing.
func (c *Cache) Find(x int) int {
	s := c.setOf(x)
	if s < 0 {
		return Nothing
	}
	return wayOf(c.sets[s].blocks, x)
}

// wayOf tells the first way in which the line x lies; if x is Nothing, the first in which nothing lies.
func wayOf(blocks []Block, x int) int {
	for w := 0; w < len(blocks); w++ {
		if blocks[w].Line == x {
			return w
		}
	}
	return Nothing
}

// Room tells the way that the line x is to be filled into: the first empty one, or the victim.
func (c *Cache) Room(x int) int {
	s := c.setOf(x)
	if s < 0 {
		return Nothing
	}
	free := wayOf(c.sets[s].blocks, Nothing)
	if free != Nothing {
		return free
	}
	victim, e := ways.Victim(len(c.sets[s].blocks), c.sets[s].touched)
	if e != api.OK {
		return Nothing
	}
	return victim
}

// At tells what lies in a way of the set of the line x.
func (c *Cache) At(x int, way int) Block {
	s := c.setOf(x)
	if s < 0 || way < 0 || way >= len(c.sets[s].blocks) {
		return Empty()
	}
	return c.sets[s].blocks[way]
}

// Blocks lists what lies there, set by set, in a set way by way.
func (c *Cache) Blocks() []api.Block {
	var list []api.Block
	for s := 0; s < len(c.sets); s++ {
		for w := 0; w < len(c.sets[s].blocks); w++ {
			b := c.sets[s].blocks[w]
			list = append(list, api.Block{Line: b.Line, Marked: b.Marked})
		}
	}
	return list
}

// Lay puts a block into a way of the set of the line x, in the place of what lay there.
func (c *Cache) Lay(x int, way int, b Block) {
	s := c.setOf(x)
	if s < 0 || way < 0 || way >= len(c.sets[s].blocks) {
		return
	}
	c.sets[s].blocks[way] = b
}

// Touch makes a way of the set of the line x the last touched one.
func (c *Cache) Touch(x int, way int) {
	s := c.setOf(x)
	if s < 0 || way < 0 || way >= len(c.sets[s].blocks) {
		return
	}
	var order []int
	for i := 0; i < len(c.sets[s].touched); i++ {
		earlier := c.sets[s].touched[i]
		if earlier != way {
			order = append(order, earlier)
		}
	}
	order = append(order, way)
	c.sets[s].touched = order
}
