package trie_test

import (
	"math"
	"slices"
	"strings"
	"testing"

	"teasel/api"
	"teasel/trie"
)

// made tells the trie of a list's set, which must be told.
func made(t *testing.T, l list) api.Trie {
	t.Helper()
	tree, e := trie.Make(l.set())
	if e != api.OK {
		t.Fatalf("%s: %d", l, e)
	}
	return tree
}

// far are numbers that are no node's of any trie.
var far = []int{math.MinInt, math.MinInt + 1, -1 << 32, -1, api.MaxStates, 1 << 32, math.MaxInt - 1, math.MaxInt}

func TestMakeByHand(t *testing.T) {
	for _, c := range []struct {
		words           []string
		up, depth, word []int
		bytes           string
	}{
		{[]string{"he", "she", "her"}, []int{0, 0, 0, 1, 2, 3, 4}, []int{0, 1, 1, 2, 2, 3, 3}, []int{-1, -1, -1, 0, -1, 2, 1}, "\x00hsehre"},
		{[]string{"her", "he", "she"}, []int{0, 0, 0, 1, 2, 3, 4}, []int{0, 1, 1, 2, 2, 3, 3}, []int{-1, -1, -1, 1, -1, 0, 2}, "\x00hsehre"},
		{[]string{"a"}, []int{0, 0}, []int{0, 1}, []int{-1, 0}, "\x00a"},
		{[]string{"\x00"}, []int{0, 0}, []int{0, 1}, []int{-1, 0}, "\x00\x00"},
		{[]string{"\xff\x00", "\x00"}, []int{0, 0, 0, 2}, []int{0, 1, 1, 2}, []int{-1, 1, -1, 0}, "\x00\x00\xff\x00"},
		{[]string{"aaa"}, []int{0, 0, 1, 2}, []int{0, 1, 2, 3}, []int{-1, -1, -1, 0}, "\x00aaa"},
		{[]string{"aaa", "a"}, []int{0, 0, 1, 2}, []int{0, 1, 2, 3}, []int{-1, 1, -1, 0}, "\x00aaa"},
		{[]string{"ab", "b"}, []int{0, 0, 0, 1}, []int{0, 1, 1, 2}, []int{-1, -1, 1, 0}, "\x00abb"},
		{[]string{"bb", "ba", "ab"}, []int{0, 0, 0, 1, 2, 2}, []int{0, 1, 1, 2, 2, 2}, []int{-1, -1, -1, 2, 1, 0}, "\x00abbab"},
		{[]string{"az", "ba"}, []int{0, 0, 0, 1, 2}, []int{0, 1, 1, 2, 2}, []int{-1, -1, -1, 0, 1}, "\x00abza"},
		{[]string{"c", "bcd"}, []int{0, 0, 0, 1, 3}, []int{0, 1, 1, 2, 3}, []int{-1, -1, 0, -1, 1}, "\x00bccd"},
	} {
		for _, fold := range []bool{false, true} {
			l := list{fold, c.words}
			want := api.Trie{Up: c.up, Depth: c.depth, Word: c.word, Byte: []byte(c.bytes)}
			if got, e := trie.Make(l.set()); !same(got, want) || e != api.OK {
				t.Errorf("%s: %v, %d and not %v", l, got, e, want)
			}
			if !trie.Right(want) || trie.Many(want) != len(c.up) {
				t.Errorf("%s: right %t, %d nodes", l, trie.Right(want), trie.Many(want))
			}
		}
	}
}

// TestMakeGoesByTheWords: of each node Up, Byte, Depth and Word, at its number; the trie may be, whether the set folds or not (P7.1).
func TestMakeGoesByTheWords(t *testing.T) {
	for _, l := range append(ordinary(), greatest()...) {
		want := trieByWords(l.words)
		got, e := trie.Make(l.set())
		if !same(got, want) || e != api.OK {
			t.Errorf("%s: %v, %d and not %v", l, got, e, want)
		}
		if !trie.Right(got) || trie.Many(got) != len(nodesByWords(l.words)) {
			t.Errorf("%s: right %t, %d nodes", l, trie.Right(got), trie.Many(got))
		}
	}
}

// TestWrongSets: of a set that may not be ErrArg is told, and nothing.
func TestWrongSets(t *testing.T) {
	for _, l := range wrong() {
		if got, e := trie.Make(l.set()); !same(got, api.Trie{}) || e != api.ErrArg {
			t.Errorf("%s: %v, %d", l, got, e)
		}
	}
	for _, words := range [][][]byte{nil, {}, {nil}, {{}}, {[]byte("he"), nil}} {
		if got, e := trie.Make(api.Set{Words: words}); !same(got, api.Trie{}) || e != api.ErrArg {
			t.Errorf("%q: %v, %d", words, got, e)
		}
	}
}

// TestOrderOfTheWords: the same words in another order have the same nodes; only the numbers of the words are others.
func TestOrderOfTheWords(t *testing.T) {
	for _, l := range append(ordinary(), greatest()...) {
		first := made(t, l)
		turned := slices.Clone(l.words)
		for range min(len(turned), 7) {
			turned = append(turned[1:], turned[0])
			for range 2 {
				slices.Reverse(turned)
				got := made(t, list{l.fold, turned})
				if !slices.Equal(got.Up, first.Up) || !slices.Equal(got.Depth, first.Depth) || !slices.Equal(got.Byte, first.Byte) {
					t.Fatalf("%s, as %.60q: %v and not %v", l, turned, got, first)
				}
				for node, word := range got.Word {
					if before := first.Word[node]; (word < 0) != (before < 0) || word >= 0 && turned[word] != l.words[before] {
						t.Fatalf("%s, as %.60q: node %d is the word %d", l, turned, node, word)
					}
				}
			}
		}
	}
}

// TestFoldMakesNoDifference: a set's trie does not tell whether the set folds.
func TestFoldMakesNoDifference(t *testing.T) {
	for _, l := range append(ordinary(), greatest()...) {
		if l.fold && !trie.Same(made(t, l), made(t, list{false, l.words})) {
			t.Errorf("%s: another trie without fold", l)
		}
	}
}

func TestKidByHand(t *testing.T) {
	tree := made(t, list{false, []string{"he", "she", "her"}})
	for _, c := range []struct {
		node  int
		c     byte
		kid   int
		known bool
	}{
		{0, 'h', 1, true}, {0, 's', 2, true}, {1, 'e', 3, true}, {2, 'h', 4, true}, {3, 'r', 5, true}, {4, 'e', 6, true},
		{0, 'e', 0, false}, {0, 0, 0, false}, {0, 255, 0, false}, {0, 'H', 0, false}, {1, 'h', 0, false}, {1, 's', 0, false},
		{2, 'e', 0, false}, {3, 'e', 0, false}, {5, 'r', 0, false}, {5, 0, 0, false}, {6, 'r', 0, false}, {6, 'e', 0, false},
		{-1, 'h', 0, false}, {7, 'h', 0, false}, {7, 'r', 0, false},
	} {
		if kid, known := trie.Kid(tree, c.node, c.c); kid != c.kid || known != c.known {
			t.Errorf("the kid of %d by %q: %d, %t", c.node, c.c, kid, known)
		}
	}
}

// TestKidGoesByTheWords: the kid of any node by any byte (P7.2).
func TestKidGoesByTheWords(t *testing.T) {
	for _, l := range append(ordinary(), greatest()...) {
		tree, nodes := made(t, l), nodesByWords(l.words)
		number := map[string]int{}
		for node, bytes := range nodes {
			number[bytes] = node
		}
		for node, bytes := range nodes {
			for c := range 256 {
				want, there := number[bytes+string([]byte{byte(c)})]
				if kid, known := trie.Kid(tree, node, byte(c)); kid != want || known != there {
					t.Fatalf("%s: the kid of %d by %d: %d, %t and not %d, %t", l, node, c, kid, known, want, there)
				}
			}
		}
		for _, node := range append([]int{len(nodes), len(nodes) + 1, -2, -len(nodes)}, far...) {
			for c := range 256 {
				if kid, known := trie.Kid(tree, node, byte(c)); kid != 0 || known {
					t.Fatalf("%s: the kid of %d by %d: %d, %t", l, node, c, kid, known)
				}
			}
		}
	}
}

func TestFindByHand(t *testing.T) {
	tree := made(t, list{false, []string{"he", "she", "her"}})
	for _, c := range []struct {
		bytes string
		node  int
		known bool
	}{
		{"", 0, true}, {"h", 1, true}, {"s", 2, true}, {"he", 3, true}, {"sh", 4, true}, {"her", 5, true}, {"she", 6, true},
		{"e", 0, false}, {"r", 0, false}, {"hers", 0, false}, {"sher", 0, false}, {"hs", 0, false}, {"ehe", 0, false}, {"he\x00", 0, false},
		{"\x00", 0, false}, {"\x00he", 0, false}, {"HE", 0, false}, {"hexr", 0, false}, {"hee", 0, false}, {"herr", 0, false},
	} {
		if node, known := trie.Find(tree, []byte(c.bytes)...); node != c.node || known != c.known {
			t.Errorf("%q: %d, %t", c.bytes, node, known)
		}
	}
	if node, known := trie.Find(tree); node != 0 || !known {
		t.Errorf("no bytes: %d, %t", node, known)
	}
	if node, known := trie.Find(tree, 's', 'h', 'e'); node != 6 || !known {
		t.Errorf("one by one: %d, %t", node, known)
	}
}

// TestFoundAndSpelt: each node is found by its bytes, and has these; no other bytes are found (P7.2, P7.3).
func TestFoundAndSpelt(t *testing.T) {
	for _, l := range append(ordinary(), greatest()...) {
		tree, nodes := made(t, l), nodesByWords(l.words)
		for node, bytes := range nodes {
			if got, known := trie.Find(tree, []byte(bytes)...); got != node || !known {
				t.Fatalf("%s: %q is found at %d, %t and not %d", l, bytes, got, known, node)
			}
			if got, known := trie.Spell(tree, node); string(got) != bytes || !known {
				t.Fatalf("%s: node %d is spelt %q, %t and not %q", l, node, got, known, bytes)
			}
			for _, c := range "\x00aeh\x7fxz" {
				checkFound(t, l, tree, nodes, bytes+string(c))
				checkFound(t, l, tree, nodes, string(c)+bytes)
			}
		}
		for _, node := range append([]int{len(nodes), len(nodes) + 1, -2, -len(nodes)}, far...) {
			if got, known := trie.Spell(tree, node); len(got) != 0 || known {
				t.Fatalf("%s: node %d is spelt %q, %t", l, node, got, known)
			}
		}
		checkFound(t, l, tree, nodes, strings.Repeat(l.words[0], 1000))
	}
}

// checkFound holds what Find tells against the nodes' bytes.
func checkFound(t *testing.T, l list, tree api.Trie, nodes []string, bytes string) {
	t.Helper()
	want := slices.Index(nodes, bytes)
	node, known := trie.Find(tree, []byte(bytes)...)
	if known != (want >= 0) || node != max(0, want) {
		t.Fatalf("%s: %.60q is found at %d, %t and not %d", l, bytes, node, known, want)
	}
}

// TestWordsAreTheSets: a trie's words are its set's, by their numbers (P7.3).
func TestWordsAreTheSets(t *testing.T) {
	for _, l := range append(ordinary(), greatest()...) {
		tree := made(t, l)
		if got := toStrings(trie.Words(tree)); !slices.Equal(got, l.words) {
			t.Errorf("%s: the words %q", l, got)
		}
		for number, w := range l.words {
			if node, known := trie.Find(tree, []byte(w)...); !known || tree.Word[node] != number {
				t.Errorf("%s: the word %d is found at %d, %t", l, number, node, known)
			}
		}
	}
}

// TestNodesStandAboveAndHaveKids: a node's number is above that of the node above it, and each node but the words has a kid (P7.3).
func TestNodesStandAboveAndHaveKids(t *testing.T) {
	for _, l := range append(ordinary(), greatest()...) {
		tree := made(t, l)
		for node := range trie.Many(tree) {
			if node > 0 && tree.Up[node] >= node {
				t.Errorf("%s: node %d is below %d", l, node, tree.Up[node])
			}
			kids := 0
			for c := range 256 {
				if kid, known := trie.Kid(tree, node, byte(c)); known {
					kids++
					if tree.Up[kid] != node || tree.Byte[kid] != byte(c) || tree.Depth[kid] != tree.Depth[node]+1 {
						t.Errorf("%s: the kid of %d by %d is %d", l, node, c, kid)
					}
				}
			}
			if kids == 0 && tree.Word[node] < 0 {
				t.Errorf("%s: node %d has no kid and is no word", l, node)
			}
		}
	}
}

// TestNothingOfWrongTries: of a trie that may not be nothing is told (P7.1, P7.2).
func TestNothingOfWrongTries(t *testing.T) {
	for name, tree := range wrongTries() {
		checkNothing(t, name, tree)
	}
	right := made(t, list{false, []string{"he", "she", "her"}})
	for name, tree := range others(right, 10) {
		if !rightByWords(tree) {
			checkNothing(t, name, tree)
		}
	}
}

// checkNothing holds that nothing is told of a trie.
func checkNothing(t *testing.T, name string, tree api.Trie) {
	t.Helper()
	if trie.Right(tree) || trie.Many(tree) != 0 || len(trie.Words(tree)) != 0 {
		t.Errorf("%s: right %t, %d nodes, the words %q", name, trie.Right(tree), trie.Many(tree), trie.Words(tree))
	}
	for _, bytes := range []string{"", "a", "h", "he", "ab", "\x00", "x"} {
		if node, known := trie.Find(tree, []byte(bytes)...); node != 0 || known {
			t.Errorf("%s: %q is found at %d, %t", name, bytes, node, known)
		}
	}
	for _, node := range append([]int{0, 1, 2, len(tree.Up) - 1, len(tree.Up)}, far...) {
		if bytes, known := trie.Spell(tree, node); len(bytes) != 0 || known {
			t.Errorf("%s: node %d is spelt %q, %t", name, node, bytes, known)
		}
		for _, c := range []byte("\x00abehsrx\xff") {
			if kid, known := trie.Kid(tree, node, c); kid != 0 || known {
				t.Errorf("%s: the kid of %d by %d: %d, %t", name, node, c, kid, known)
			}
		}
	}
}
