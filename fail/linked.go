package fail

import (
	"cmp"
	"iter"
	"sort"

	"teasel/api"
)

// linked is a trie that may be, with its links.
type linked struct {
	api.Trie
	links []int
}

// link finds a trie's links. The link of a node is where one goes on, by its byte, from the link of the node above it: both, and all that is asked on the way, have lesser numbers, so their links are there.
func link(t api.Trie) linked {
	l := linked{t, make([]int, len(t.Up))}
	for node, up := range l.Up {
		// From the root the byte of a node right below it leads to that node itself; but a proper suffix of one byte is empty.
		if l.Depth[node] > 1 {
			l.links[node] = l.step(l.links[up], l.Byte[node])
		}
	}
	return l
}

// chain goes through a node, its link, that one's link, and so on, the root last.
func (l linked) chain(node int) iter.Seq[int] {
	return func(yield func(int) bool) {
		for yield(node) && node != 0 {
			node = l.links[node]
		}
	}
}

// kid tells a node's kid by a byte, and whether there is one. Behind the root nodes stand in the order of those above them, and below one node of their bytes.
func (l linked) kid(node int, c byte) (int, bool) {
	place, known := sort.Find(len(l.Up)-1, func(i int) int {
		return cmp.Or(cmp.Compare(node, l.Up[i+1]), cmp.Compare(c, l.Byte[i+1]))
	})
	return place + 1, known
}

// step tells the node of the longest suffix of a node's bytes and c behind them.
func (l linked) step(node int, c byte) int {
	for from := range l.chain(node) {
		if kid, known := l.kid(from, c); known {
			return kid
		}
	}
	return 0
}

// deepest tells the node of the longest suffix of b. No node has more than MaxLength bytes, so what stands ahead of the last ones makes no difference.
func (l linked) deepest(b []byte) int {
	node := 0
	for _, c := range b[max(0, len(b)-api.MaxLength):] {
		node = l.step(node, c)
	}
	return node
}
