package fail_test

import (
	"cmp"
	"fmt"
	"maps"
	"math"
	"slices"
	"strings"
	"testing"

	"teasel/api"
	"teasel/trie"
)

// list is a list of words, with fold or without.
type list struct {
	fold  bool
	words []string
}

func (l list) String() string {
	return fmt.Sprintf("%d words %.60q, fold %t", len(l.words), l.words[:min(4, len(l.words))], l.fold)
}

// made tells the trie of a list's set, which must be told.
func made(t *testing.T, l list) api.Trie {
	t.Helper()
	s := api.Set{Fold: l.fold}
	for _, w := range l.words {
		s.Words = append(s.Words, []byte(w))
	}
	tree, e := trie.Make(s)
	if e != api.OK {
		t.Fatalf("%s: %d", l, e)
	}
	return tree
}

// far are numbers that are no node's of any trie.
var far = []int{math.MinInt, math.MinInt + 1, -1 << 32, -2, -1, api.MaxStates, 1 << 32, math.MaxInt - 1, math.MaxInt}

// ordinary are sets that may be, with fold and without.
func ordinary() []list {
	var l []list
	for _, words := range [][]string{
		{"he", "she", "her"},
		{"her", "she", "he"},
		{"a"},
		{"\x00"},
		{"\xff"},
		{"abc"},
		{"aaaa"},
		{"\x00\x00\x00"},
		{"abab"},
		{"aabaaab"},
		{"abaababaab"},
		{"a", "ab", "abc", "abcd"},
		{"abcd", "bcd", "cd", "d"},
		{"abcd", "bcx", "cd", "dab"},
		{"abcd", "abc", "ab", "a", "b", "bc"},
		{"b", "a", "ab", "ba", "bb", "aa"},
		{"ba", "ab", "cab", "bac", "abba"},
		{"\x00", "\xff", "\xff\x00", "\x00\xff", "\x00\x00", "\xff\xff\x00"},
		{"\x00\xff\x00", "\xff\x00\x00", "\x00\x00\xff\xff"},
		{"x\x7f", "x\x80", "x", "x\x00x", "x\xffx"},
		{"@", "`", "[", "{", "\xc1", "\xe1"},
		{"nothing", "not", "note", "notes", "thing", "in", "e"},
	} {
		l = append(l, list{false, words}, list{true, words})
	}
	return append(l, list{false, []string{"He", "sHe", "he", "SHE", "hER"}}, list{false, []string{"Z", "a", "A", "z", "AZ", "zAz"}})
}

// small are all sets of up to three words, each of up to three bytes, which are 0 and 255.
func small() []list {
	words := []string{"\x00", "\xff"}
	for from := 0; len(words[from]) < 3; from++ {
		words = append(words, words[from]+"\x00", words[from]+"\xff")
	}
	var l []list
	for i := range words {
		l = append(l, list{false, []string{words[i]}})
		for j := range i {
			l = append(l, list{false, []string{words[i], words[j]}})
			for k := range j {
				l = append(l, list{false, []string{words[i], words[j], words[k]}})
			}
		}
	}
	return l
}

// singles are so many words of one byte, from the greatest one down.
func singles(many int) []string {
	var l []string
	for i := range many {
		l = append(l, string([]byte{byte(255 - i)}))
	}
	return l
}

// apart are so many bytes in words of up to MaxLength bytes, no two of which begin with the same byte; the first one is of the byte that follows in all.
func apart(together int) []string {
	var l []string
	for first := byte('x'); together > 0; first++ {
		n := min(together, api.MaxLength)
		l = append(l, string([]byte{first})+strings.Repeat("x", n-1))
		together -= n
	}
	return l
}

// alike are so many bytes in words that begin alike.
func alike(together int) []string {
	var l []string
	for together > 0 {
		n := min(together, 25)
		l = append(l, strings.Repeat("x", n-1)+string([]byte{byte(128 + len(l))}))
		together -= n
	}
	return l
}

// greatest are sets that may be, at an edge of what may.
func greatest() []list {
	var l []list
	for _, words := range [][]string{
		singles(api.MaxWords), {strings.Repeat("x", api.MaxLength)}, {strings.Repeat("ushers", 5) + "us"}, apart(api.MaxStates - 1), alike(api.MaxBytes),
	} {
		l = append(l, list{false, words}, list{true, words})
	}
	return l
}

// tooGreat are lists of words that are just beyond one edge of what may be, and within all others.
func tooGreat() []list {
	return []list{{false, singles(api.MaxWords + 1)}, {false, []string{strings.Repeat("x", api.MaxLength+1)}}, {false, apart(api.MaxStates)}, {false, alike(api.MaxBytes + 1)}}
}

// nodesByWords tells the bytes of the words' nodes, in the order of their numbers, by chapter 7's words.
func nodesByWords(words []string) []string {
	nodes := map[string]bool{}
	for _, w := range words {
		for k := range len(w) + 1 {
			nodes[w[:k]] = true
		}
	}
	return slices.SortedFunc(maps.Keys(nodes), func(a, b string) int {
		return cmp.Or(cmp.Compare(len(a), len(b)), strings.Compare(a, b))
	})
}

// trieByWords tells the trie of any words, such as are no set's too, by chapter 7's words.
func trieByWords(words []string) api.Trie {
	var t api.Trie
	nodes := nodesByWords(words)
	for node, bytes := range nodes {
		up, last := 0, byte(0)
		if node > 0 {
			up, last = slices.Index(nodes, bytes[:len(bytes)-1]), bytes[len(bytes)-1]
		}
		t.Up, t.Byte = append(t.Up, up), append(t.Byte, last)
		t.Depth, t.Word = append(t.Depth, len(bytes)), append(t.Word, slices.Index(words, bytes))
	}
	return t
}

// byWords is what this layer's chapter says of the nodes of some words, by its words.
type byWords struct {
	nodes  []string
	number map[string]int
}

func ofWords(words []string) byWords {
	w := byWords{nodesByWords(words), map[string]int{}}
	for node, bytes := range w.nodes {
		w.number[bytes] = node
	}
	return w
}

// deepest tells the node of the longest suffix that is a node's bytes.
func (w byWords) deepest(bytes string) int {
	for from := range len(bytes) {
		if node, known := w.number[bytes[from:]]; known {
			return node
		}
	}
	return 0
}

func (w byWords) links() []int {
	links := []int{0}
	for _, bytes := range w.nodes[1:] {
		links = append(links, w.deepest(bytes[1:]))
	}
	return links
}

// chain tells all nodes whose bytes end the node's, the longest first.
func (w byWords) chain(node int) []int {
	var chain []int
	for other, bytes := range w.nodes {
		if strings.HasSuffix(w.nodes[node], bytes) {
			chain = append(chain, other)
		}
	}
	slices.Reverse(chain) // the shorter ones have the lesser numbers, and no two of these have the same length
	return chain
}
