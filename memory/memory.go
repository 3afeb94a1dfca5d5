// Package memory keeps the words that stand behind the far cache.
package memory

import "walls/api"

// Words are those of a line; the rest of them is 0, if a line has fewer.
type Words [api.MaxLine]int

// Memory is that of all domains. The shared words stand there once: no operation changes them.
type Memory struct {
	line   int     // words of a line
	own    [][]int // of each domain
	shared []int
}

// New gives a memory in which all words are 0. It trusts that the configuration is right.
func New(c api.Config) Memory {
	m := Memory{line: c.Line}
	for d := 0; d < c.Domains; d++ {
		words := zeros(c.Private)
		m.own = append(m.own, words)
	}
	m.shared = zeros(c.Shared)
	return m
}

func zeros(n int) []int {
	var list []int
	for i := 0; i < n; i++ {
		list = append(list, 0)
	}
	return list
}

// Fill makes d's own word a v, if there is such a word.
func (m *Memory) Fill(d int, a int, v int) {
	if d < 0 || d >= len(m.own) {
		return
	}
	if a < 0 || a >= len(m.own[d]) {
		return
	}
	m.own[d][a] = v
}

// Share makes the shared word a v, if there is such a word.
func (m *Memory) Share(a int, v int) {
	if a < 0 || a >= len(m.shared) {
		return
	}
	m.shared[a] = v
}

// Word is what stands at d's address a: behind its own words come the shared ones.
func (m *Memory) Word(d int, a int) int {
	if d < 0 || d >= len(m.own) || a < 0 {
		return 0
	}
	if a < len(m.own[d]) {
		return m.own[d][a]
	}
	behind := a - len(m.own[d])
	if behind < len(m.shared) {
		return m.shared[behind]
	}
	return 0
}

// Read gives the words of d's line x.
func (m *Memory) Read(d int, x int) Words {
	var words Words
	for i := 0; i < m.line && i < len(words); i++ {
		words[i] = m.Word(d, x*m.line+i)
	}
	return words
}

// Write lays down the words of d's line x. Those of a shared line are never written.
func (m *Memory) Write(d int, x int, words Words) {
	for i := 0; i < m.line && i < len(words); i++ {
		m.Fill(d, x*m.line+i, words[i])
	}
}
