package trie_test

import (
	"slices"
	"testing"

	"teasel/api"
	"teasel/trie"
)

// TestRightGoesByTheWords: of tries that differ in little from such as may be just those may be that are a set's (P7.1).
func TestRightGoesByTheWords(t *testing.T) {
	right := 0
	for _, l := range append(ordinary(), greatest()...) {
		if tree := trieByWords(l.words); !trie.Right(tree) {
			t.Errorf("%s: may not be", l)
		} else if !l.fold {
			for name, o := range others(tree, 12) {
				want := rightByWords(o)
				if trie.Right(o) != want {
					t.Fatalf("%s, %s: %t and not %t", l, name, trie.Right(o), want)
				}
				if want {
					right++
				}
			}
		}
	}
	if right == 0 {
		t.Error("none of the others may be: they try too little")
	}
}

// TestRightByHand: of each kind such as may not be, and some that may; the tests' own judge is of the same mind.
func TestRightByHand(t *testing.T) {
	for name, tree := range wrongTries() {
		if trie.Right(tree) || rightByWords(tree) {
			t.Errorf("%s: %t, and by the words %t", name, trie.Right(tree), rightByWords(tree))
		}
	}
	for name, tree := range map[string]api.Trie{
		"of one word":         {Up: []int{0, 0}, Depth: []int{0, 1}, Word: []int{-1, 0}, Byte: []byte{0, 0}},
		"of a word in a word": {Up: []int{0, 0, 1}, Depth: []int{0, 1, 2}, Word: []int{-1, 1, 0}, Byte: []byte{0, 255, 0}},
		"of great letters":    {Up: []int{0, 0, 0}, Depth: []int{0, 1, 1}, Word: []int{-1, 1, 0}, Byte: []byte{0, 'A', 'a'}},
	} {
		if !trie.Right(tree) || !rightByWords(tree) {
			t.Errorf("%s: %t, and by the words %t", name, trie.Right(tree), rightByWords(tree))
		}
	}
}

// few is a trie of at most four nodes and of small numbers, as what may be a map's key.
type few struct {
	many  int
	nodes [4][4]int8
}

func ofFew(t api.Trie) few {
	f := few{many: len(t.Up)}
	for node := range f.many {
		f.nodes[node] = [4]int8{int8(t.Up[node]), int8(t.Depth[node]), int8(t.Word[node]), int8(t.Byte[node])}
	}
	return f
}

// fewRight are all tries that may be, of up to four nodes and the bytes 0 and 1.
func fewRight() map[few]bool {
	right := map[few]bool{}
	short := []string{"\x00", "\x01"}
	for from := 0; len(short[from]) < 3; from++ {
		short = append(short, short[from]+"\x00", short[from]+"\x01")
	}
	var add func(words []string)
	add = func(words []string) {
		if len(nodesByWords(words)) > 4 {
			return
		}
		if len(words) > 0 {
			right[ofFew(trieByWords(words))] = true
		}
		for _, w := range short {
			if !slices.Contains(words, w) {
				add(append(slices.Clone(words), w))
			}
		}
	}
	add(nil)
	return right
}

// TestRightOfAllFew: of all tries of few nodes, and of numbers in and beside what may be, just those may be that are a set's.
func TestRightOfAllFew(t *testing.T) {
	right, found := fewRight(), 0
	for many := 1; many <= 4; many++ {
		tree := api.Trie{Up: make([]int, many), Depth: make([]int, many), Word: make([]int, many), Byte: make([]byte, many)}
		tree.Word[0] = -1
		first := 0
		if many == 4 {
			first = 1 // with the root as it must be: else there were too many
		}
		for range filled(tree, first) {
			want := right[ofFew(tree)]
			if got := trie.Right(tree); got != want {
				t.Fatalf("%v: %t and not %t", tree, got, want)
			}
			if want {
				found++
			}
		}
	}
	if found != len(right) {
		t.Errorf("%d that may be were tried, of %d", found, len(right))
	}
}

// filled puts all small numbers into the nodes of a trie, from one on, by turns.
func filled(t api.Trie, node int) func(yield func() bool) {
	return func(yield func() bool) {
		if node == len(t.Up) {
			yield()
			return
		}
		for up := -1; up <= 3; up++ {
			for depth := max(0, node-2); depth <= min(3, node+1); depth++ {
				for word := -2; word <= 2; word++ {
					for c := range byte(2) {
						t.Up[node], t.Depth[node], t.Word[node], t.Byte[node] = up, depth, word, c
						for range filled(t, node+1) {
							if !yield() {
								return
							}
						}
					}
				}
			}
		}
	}
}

// TestGreatWrongTries: lists that are far too long, and numbers that are far too great, are answered too (R1).
func TestGreatWrongTries(t *testing.T) {
	const many = 1 << 20
	one := trieByWords([]string{"a"})
	long := api.Trie{Up: make([]int, many), Depth: make([]int, many), Word: slices.Repeat([]int{-1}, many), Byte: make([]byte, many)}
	for node := 1; node < many; node++ {
		long.Up[node], long.Depth[node] = node-1, node
	}
	long.Word[many-1] = 0
	checkNothing(t, "a great trie", long)
	one.Up = long.Up
	checkNothing(t, "one great list", one)
	if own := trie.Own(long); !trie.Same(own, long) || trie.Same(long, one) {
		t.Error("a great trie: not the same")
	}
}
