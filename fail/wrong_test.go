package fail_test

import (
	"fmt"
	"slices"
	"testing"

	"teasel/api"
	"teasel/fail"
	"teasel/trie"
)

// wrongTries are tries that may not be, of each kind.
func wrongTries() map[string]api.Trie {
	tries := map[string]api.Trie{
		"of nothing":                 {},
		"of empty lists":             {Up: []int{}, Depth: []int{}, Word: []int{}, Byte: []byte{}},
		"of the root alone":          {Up: []int{0}, Depth: []int{0}, Word: []int{-1}, Byte: []byte{0}},
		"of the root, a word":        {Up: []int{0}, Depth: []int{0}, Word: []int{0}, Byte: []byte{0}},
		"with the root a word":       {Up: []int{0, 0}, Depth: []int{0, 1}, Word: []int{1, 0}, Byte: []byte{0, 'h'}},
		"with a byte of the root":    {Up: []int{0, 0}, Depth: []int{0, 1}, Word: []int{-1, 0}, Byte: []byte{'h', 'h'}},
		"without words":              {Up: []int{0, 0, 1}, Depth: []int{0, 1, 2}, Word: []int{-1, -1, -1}, Byte: []byte{0, 'h', 'e'}},
		"with a leaf that is none":   {Up: []int{0, 0, 0}, Depth: []int{0, 1, 1}, Word: []int{-1, 0, -1}, Byte: []byte{0, 'h', 's'}},
		"with an Up below 0":         {Up: []int{0, -1}, Depth: []int{0, 1}, Word: []int{-1, 0}, Byte: []byte{0, 'h'}},
		"with an Up too great":       {Up: []int{0, 2}, Depth: []int{0, 1}, Word: []int{-1, 0}, Byte: []byte{0, 'h'}},
		"with a node below itself":   {Up: []int{0, 1}, Depth: []int{0, 1}, Word: []int{-1, 0}, Byte: []byte{0, 'h'}},
		"with a root below a node":   {Up: []int{1, 0}, Depth: []int{0, 1}, Word: []int{-1, 0}, Byte: []byte{0, 'h'}},
		"with a circle":              {Up: []int{0, 2, 1}, Depth: []int{0, 1, 2}, Word: []int{-1, -1, 0}, Byte: []byte{0, 'h', 'e'}},
		"with a depth too great":     {Up: []int{0, 0}, Depth: []int{0, 2}, Word: []int{-1, 0}, Byte: []byte{0, 'h'}},
		"in another order of bytes":  {Up: []int{0, 0, 0}, Depth: []int{0, 1, 1}, Word: []int{-1, 0, 1}, Byte: []byte{0, 's', 'h'}},
		"with the same node twice":   {Up: []int{0, 0, 0}, Depth: []int{0, 1, 1}, Word: []int{-1, 0, 1}, Byte: []byte{0, 'h', 'h'}},
		"with the deeper one ahead":  {Up: []int{0, 0, 1, 0}, Depth: []int{0, 1, 2, 1}, Word: []int{-1, 0, 1, 2}, Byte: []byte{0, 'h', 'h', 's'}},
		"with a number twice":        {Up: []int{0, 0, 0}, Depth: []int{0, 1, 1}, Word: []int{-1, 0, 0}, Byte: []byte{0, 'h', 's'}},
		"with a number left out":     {Up: []int{0, 0, 0}, Depth: []int{0, 1, 1}, Word: []int{-1, 0, 2}, Byte: []byte{0, 'h', 's'}},
		"with a number below -1":     {Up: []int{0, 0, 1}, Depth: []int{0, 1, 2}, Word: []int{-1, -2, 0}, Byte: []byte{0, 'h', 'e'}},
		"with numbers from 1 on":     {Up: []int{0, 0, 0}, Depth: []int{0, 1, 1}, Word: []int{-1, 1, 2}, Byte: []byte{0, 'h', 's'}},
		"with a list of Up alone":    {Up: []int{0, 0}},
		"with a list of Byte alone":  {Byte: []byte{0, 'h'}},
		"with great numbers, uneven": {Up: []int{1 << 62, -1 << 63}, Depth: []int{1 << 62}, Word: []int{7, 8, 9}, Byte: []byte{1}},
	}
	for _, l := range tooGreat() {
		tries[l.String()] = trieByWords(l.words)
	}
	return tries
}

// TestWrongTries: ErrArg, and nothing told (P8.1, P8.2).
func TestWrongTries(t *testing.T) {
	for name, tree := range wrongTries() {
		checkNothing(t, name, tree)
	}
}

// TestChangedTries: of a trie that differs from one that may be in an entry, or in a list's length, nothing is told, unless it may be too.
func TestChangedTries(t *testing.T) {
	for _, l := range []list{{false, []string{"he", "she", "her"}}, {false, []string{"\x00", "\xff\x00", "\x00\x00"}}, {false, []string{"aaa", "a"}}} {
		for name, tree := range changed(made(t, l)) {
			if !trie.Right(tree) {
				checkNothing(t, l.String()+": "+name, tree)
			} else if links, e := fail.Links(tree); e != api.OK || !slices.Equal(links, ofTrie(tree).links()) {
				t.Errorf("%s: %s: %v, %d", l, name, links, e)
			}
		}
	}
}

// ofTrie is what the chapter says of the nodes of a trie that may be.
func ofTrie(tree api.Trie) byWords {
	var words []string
	for _, w := range trie.Words(tree) {
		words = append(words, string(w))
	}
	return ofWords(words)
}

// changed are tries that differ from one.
func changed(tree api.Trie) func(yield func(string, api.Trie) bool) {
	return func(yield func(string, api.Trie) bool) {
		for node := range tree.Up {
			for _, n := range append([]int{0, 1, 2, node - 1, node, node + 1, len(tree.Up) - 1, len(tree.Up)}, far...) {
				up, depth, word, last := trie.Own(tree), trie.Own(tree), trie.Own(tree), trie.Own(tree)
				up.Up[node], depth.Depth[node], word.Word[node], last.Byte[node] = n, n, n, byte(n)
				for name, other := range map[string]api.Trie{"Up": up, "Depth": depth, "Word": word, "Byte": last} {
					if !trie.Same(other, tree) && !yield(fmt.Sprintf("%s of %d is %d", name, node, n), other) {
						return
					}
				}
			}
		}
		for which := range 4 {
			shorter, longer, none := trie.Own(tree), trie.Own(tree), trie.Own(tree)
			end := len(tree.Up) - 1
			switch which {
			case 0:
				shorter.Up, longer.Up, none.Up = shorter.Up[:end], append(longer.Up, 0), nil
			case 1:
				shorter.Depth, longer.Depth, none.Depth = shorter.Depth[:end], append(longer.Depth, 1), nil
			case 2:
				shorter.Word, longer.Word, none.Word = shorter.Word[:end], append(longer.Word, -1), nil
			case 3:
				shorter.Byte, longer.Byte, none.Byte = shorter.Byte[:end], append(longer.Byte, 255), nil
			}
			if !yield(fmt.Sprintf("list %d is shorter", which), shorter) || !yield(fmt.Sprintf("list %d is longer", which), longer) || !yield(fmt.Sprintf("list %d is nil", which), none) {
				return
			}
		}
	}
}

// checkNothing holds that nothing is told of a trie.
func checkNothing(t *testing.T, name string, tree api.Trie) {
	t.Helper()
	if links, e := fail.Links(tree); len(links) != 0 || e != api.ErrArg {
		t.Errorf("%s: the links %v, %d", name, links, e)
	}
	for _, links := range [][]int{nil, {}, {0}, {0, 0}, {0, 0, 0}, {0, 0, 1}, {0, 0, 1, 2}, {0, 0, 0, 1}, {0, 0, 1, 0}, {0, 0, 0, 0, 1, 0, 3}, make([]int, len(tree.Up)), tree.Up} {
		if fail.Right(tree, links...) {
			t.Errorf("%s: %v are the links", name, links)
		}
	}
	for _, bytes := range []string{"", "h", "he", "ushe", "s", "a", "aaa", "\x00", "\xff\x00", "q"} {
		if node, known := fail.Deepest(tree, []byte(bytes)...); node != 0 || known {
			t.Errorf("%s: %q: %d, %t", name, bytes, node, known)
		}
	}
	for _, node := range append([]int{0, 1, 2, 3, len(tree.Up) - 1, len(tree.Up)}, far...) {
		if chain := fail.Chain(tree, node); len(chain) != 0 {
			t.Errorf("%s: the chain of %d is %v", name, node, chain)
		}
		for _, c := range []byte("\x00ahesxq\xff") {
			if to, known := fail.Step(tree, node, c); to != 0 || known {
				t.Errorf("%s: from %d by %d: %d, %t", name, node, c, to, known)
			}
		}
	}
}

// TestLinksOfWrongTries: not even the links that the nodes of too great a trie have are right.
func TestLinksOfWrongTries(t *testing.T) {
	for _, l := range tooGreat() {
		if links := ofWords(l.words).links(); fail.Right(trieByWords(l.words), links...) {
			t.Errorf("%s: %v are the links", l, links)
		}
	}
}

// TestGreatWrongTries: lists that are far too long are answered too (R1).
func TestGreatWrongTries(t *testing.T) {
	const many = 1 << 16
	long := api.Trie{Up: make([]int, many), Depth: make([]int, many), Word: slices.Repeat([]int{-1}, many), Byte: make([]byte, many)}
	for node := 1; node < many; node++ {
		long.Up[node], long.Depth[node] = node-1, node
	}
	long.Word[many-1] = 0
	checkNothing(t, "a great trie", long)
	tree := made(t, list{false, []string{"he", "she", "her"}})
	if fail.Right(tree, make([]int, many)...) {
		t.Error("a great list is the links")
	}
	tree.Up = long.Up
	checkNothing(t, "one great list", tree)
}
