package trie

import (
	"cmp"
	"slices"

	"teasel/api"
)

// even tells whether there are nodes, no more than may be, and the lists are of one length. All that is asked behind it leans on that.
func even(t api.Trie) bool {
	many := len(t.Up)
	return 0 < many && many <= api.MaxStates && len(t.Depth) == many && len(t.Word) == many && len(t.Byte) == many
}

// rooted tells whether the first node is the root, which is no word, since none is empty.
func rooted(t api.Trie) bool {
	return t.Up[0] == 0 && t.Depth[0] == 0 && t.Word[0] == none && t.Byte[0] == 0
}

// rising tells whether each node but the root stands below one that is ahead of it, a byte deeper, and whether they stand in order. That is their order if they go by the nodes above them, and below one node by their bytes: those above them stand in order too. So no two have the same bytes either.
func rising(t api.Trie) bool {
	for node := 1; node < len(t.Up); node++ {
		up := t.Up[node]
		if up < 0 || up >= node || t.Depth[node] != t.Depth[up]+1 {
			return false
		}
		if node > 1 && cmp.Or(cmp.Compare(t.Up[node-1], up), cmp.Compare(t.Byte[node-1], t.Byte[node])) >= 0 {
			return false
		}
	}
	return true
}

// ended tells whether each node without a kid is a word; another one would be no word's beginning.
func ended(t api.Trie) bool {
	var above [api.MaxStates]bool
	for _, up := range t.Up[1:] {
		above[up] = true
	}
	for node, word := range t.Word {
		if word == none && !above[node] {
			return false
		}
	}
	return true
}

// numbered tells whether the words' numbers are those from 0 on, each of one node alone: where none is as great as there are many, none is left out.
func numbered(t api.Trie) bool {
	nodes := places(t)
	for node, word := range t.Word {
		if word != none && (word < 0 || word >= len(nodes) || nodes[word] != node) {
			return false
		}
	}
	return true
}

// bounded tells whether the words are no more, and no longer, than those of a set may be.
func bounded(t api.Trie) bool {
	many, together := 0, 0
	for node, word := range t.Word {
		if word != none {
			many++
			together += t.Depth[node]
		}
	}
	return many <= api.MaxWords && together <= api.MaxBytes && slices.Max(t.Depth) <= api.MaxLength
}
