package trie

import (
	"iter"

	"teasel/api"
)

// none is the Word of a node that is no word.
const none = -1

// places tells of each word's number its node.
func places(t api.Trie) map[int]int {
	nodes := map[int]int{}
	for node, word := range t.Word {
		if word != none {
			nodes[word] = node
		}
	}
	return nodes
}

// stands tells whether a trie may be and has such a node.
func stands(t api.Trie, node int) bool { return 0 <= node && node < len(t.Up) && Right(t) }

// kids goes through a node's kids, by their numbers. Nodes stand in the order of those above them, so behind one that is below a greater node there is no kid.
func kids(t api.Trie, node int) iter.Seq[int] {
	return func(yield func(int) bool) {
		for kid := node + 1; kid < len(t.Up) && t.Up[kid] <= node; kid++ {
			if t.Up[kid] == node && !yield(kid) {
				return
			}
		}
	}
}

// below tells a node's kid by a byte, and whether there is one.
func below(t api.Trie, node int, c byte) (int, bool) {
	for kid := range kids(t, node) {
		if t.Byte[kid] == c {
			return kid, true
		}
	}
	return 0, false
}

// spelt tells a node's bytes.
func spelt(t api.Trie, node int) []byte {
	b := make([]byte, t.Depth[node])
	for ; node > 0; node = t.Up[node] {
		b[t.Depth[node]-1] = t.Byte[node]
	}
	return b
}
