package trie

import (
	"iter"

	"teasel/api"
)

// growing is a tree in the making, of some words; it has of each node the numbers of the words that begin with the node's bytes.
type growing struct {
	api.Trie
	words [][]byte
	under [][]int
}

// grow adds all nodes. A node's kids come behind all nodes that are there, so shorter ones stand ahead of longer ones, and those of one length in the order of their bytes.
func (g *growing) grow() {
	var all []int
	for number := range len(g.words) {
		all = append(all, number)
	}
	g.add(0, 0, 0, all)
	for node := 0; node < len(g.Up); node++ {
		for c, under := range g.branches(node) {
			g.add(node, c, g.Depth[node]+1, under)
		}
	}
}

// add adds a node, with the numbers of the words under it.
func (g *growing) add(up int, c byte, depth int, under []int) {
	word := none
	for _, number := range under {
		if len(g.words[number]) == depth {
			word = number
		}
	}
	g.Up = append(g.Up, up)
	g.Byte = append(g.Byte, c)
	g.Depth = append(g.Depth, depth)
	g.Word = append(g.Word, word)
	g.under = append(g.under, under)
}

// branches goes through the bytes by which words go on from a node, from the least on, each with the numbers of these words.
func (g *growing) branches(node int) iter.Seq2[byte, []int] {
	return func(yield func(byte, []int) bool) {
		for c := range 256 {
			under := g.on(node, byte(c))
			if len(under) > 0 && !yield(byte(c), under) {
				return
			}
		}
	}
}

// on tells the numbers of the words that go on from a node by a byte.
func (g *growing) on(node int, c byte) []int {
	depth := g.Depth[node]
	var on []int
	for _, number := range g.under[node] {
		if w := g.words[number]; len(w) > depth && w[depth] == c {
			on = append(on, number)
		}
	}
	return on
}
