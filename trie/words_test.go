package trie_test

import (
	"cmp"
	"fmt"
	"maps"
	"slices"
	"strings"

	"teasel/api"
	"teasel/patset"
)

// list is a list of words, with fold or without.
type list struct {
	fold  bool
	words []string
}

func (l list) set() api.Set { return api.Set{Fold: l.fold, Words: ofStrings(l.words)} }

func (l list) String() string {
	return fmt.Sprintf("%d words %.60q, fold %t", len(l.words), l.words[:min(4, len(l.words))], l.fold)
}

func ofStrings(l []string) [][]byte {
	var words [][]byte
	for _, w := range l {
		words = append(words, []byte(w))
	}
	return words
}

func toStrings(words [][]byte) []string {
	var l []string
	for _, w := range words {
		l = append(l, string(w))
	}
	return l
}

// ordinary are sets that may be, with fold and without.
func ordinary() []list {
	var l []list
	for _, words := range [][]string{
		{"he", "she", "her"},
		{"her", "she", "he"},
		{"a"},
		{"\x00"},
		{"\xff"},
		{"abc"},
		{"\x00\x00\x00"},
		{"a", "ab", "abc", "abcd"},
		{"abcd", "bcd", "cd", "d"},
		{"abcd", "abc", "ab", "a", "b", "bc"},
		{"b", "a", "ab", "ba", "bb", "aa"},
		{"ba", "ab", "cab", "bac", "abba"},
		{"\x00", "\xff", "\xff\x00", "\x00\xff", "\x00\x00", "\xff\xff\x00"},
		{"x\x7f", "x\x80", "x", "x\x00x", "x\xffx"},
		{"@", "`", "[", "{", "\xc1", "\xe1"},
		{"nothing", "not", "note", "notes", "thing", "in"},
	} {
		l = append(l, list{false, words}, list{true, words})
	}
	return append(l, list{false, []string{"He", "hE", "he", "HE"}}, list{false, []string{"Z", "a", "A", "z", "AZ"}})
}

// singles are so many words of one byte, from the greatest one down.
func singles(many int) []string {
	var l []string
	for i := range many {
		l = append(l, string([]byte{byte(255 - i)}))
	}
	return l
}

// apart are so many bytes in words of up to MaxLength bytes, no two of which begin with the same byte.
func apart(together int) []string {
	var l []string
	for first := byte(1); together > 0; first++ {
		n := min(together, api.MaxLength)
		l = append(l, string([]byte{first})+strings.Repeat("x", n-1))
		together -= n
	}
	return l
}

// alike are so many bytes in words that begin alike.
func alike(together int) []string {
	var l []string
	for together > 0 {
		n := min(together, 25)
		l = append(l, strings.Repeat("x", n-1)+string([]byte{byte(128 + len(l))}))
		together -= n
	}
	return l
}

// greatest are sets that may be, at an edge of what may.
func greatest() []list {
	var l []list
	for _, words := range [][]string{
		singles(api.MaxWords), {strings.Repeat("x", api.MaxLength)}, apart(api.MaxStates - 1), alike(api.MaxBytes),
	} {
		l = append(l, list{false, words}, list{true, words})
	}
	return l
}

// tooGreat are lists of words that are just beyond one edge of what may be, and within all others.
func tooGreat() [][]string {
	return [][]string{singles(api.MaxWords + 1), {strings.Repeat("x", api.MaxLength+1)}, apart(api.MaxStates), alike(api.MaxBytes + 1)}
}

// wrong are sets that may not be.
func wrong() []list {
	var l []list
	for _, words := range append(tooGreat(), nil, []string{}, []string{""}, []string{"he", ""}, []string{"", "he"}, []string{"he", "he"}, []string{"he", "she", "her", "he"}) {
		l = append(l, list{false, words}, list{true, words})
	}
	return append(l, list{true, []string{"He"}}, list{true, []string{"he", "HE"}}, list{true, []string{"she", "her", "Z"}})
}

// nodesByWords tells the bytes of the words' nodes, in the order of their numbers, by the chapter's words.
func nodesByWords(words []string) []string {
	nodes := map[string]bool{}
	for _, w := range words {
		for k := range len(w) + 1 {
			nodes[w[:k]] = true
		}
	}
	return slices.SortedFunc(maps.Keys(nodes), func(a, b string) int {
		return cmp.Or(cmp.Compare(len(a), len(b)), strings.Compare(a, b))
	})
}

// trieByWords tells the trie of the words of a set, by the chapter's words.
func trieByWords(words []string) api.Trie {
	nodes := nodesByWords(words)
	number := map[string]int{}
	var t api.Trie
	for n, bytes := range nodes {
		number[bytes] = n
		up, last := 0, byte(0)
		if n > 0 {
			up, last = number[bytes[:len(bytes)-1]], bytes[len(bytes)-1]
		}
		t.Up, t.Byte = append(t.Up, up), append(t.Byte, last)
		t.Depth, t.Word = append(t.Depth, len(bytes)), append(t.Word, slices.Index(words, bytes))
	}
	return t
}

// rightByWords tells whether a trie may be by the chapter's words: it is the trie of its words, and these are a set's.
func rightByWords(t api.Trie) bool {
	if len(t.Up) != len(t.Word) || len(t.Byte) != len(t.Word) {
		return false
	}
	var words []string
	for n := slices.Index(t.Word, 0); n >= 0; n = slices.Index(t.Word, len(words)) {
		word, ends := spelledUp(t, n)
		if !ends {
			return false
		}
		words = append(words, word)
	}
	return patset.Right(list{false, words}.set()) && same(trieByWords(words), t)
}

// spelledUp tells a node's bytes, as one goes up, and whether one comes to the root.
func spelledUp(t api.Trie, n int) (string, bool) {
	bytes := ""
	for range len(t.Up) {
		if n == 0 {
			return bytes, true
		}
		if n < 0 || n >= len(t.Up) {
			return "", false
		}
		bytes = string(t.Byte[n:n+1]) + bytes
		n = t.Up[n]
	}
	return "", false
}

// same tells whether two tries are the same in all.
func same(a, b api.Trie) bool {
	return slices.Equal(a.Up, b.Up) && slices.Equal(a.Depth, b.Depth) && slices.Equal(a.Word, b.Word) && slices.Equal(a.Byte, b.Byte)
}

// copied is the same trie in memory of its own.
func copied(t api.Trie) api.Trie {
	return api.Trie{Up: slices.Clone(t.Up), Depth: slices.Clone(t.Depth), Word: slices.Clone(t.Word), Byte: slices.Clone(t.Byte)}
}

// others are tries that differ from one in one entry of one list, in a list's length, or in the place of two nodes; of at most so many nodes each.
func others(t api.Trie, most int) func(yield func(string, api.Trie) bool) {
	return func(yield func(string, api.Trie) bool) {
		many := len(t.Up)
		every := max(1, many/most)
		for node := range many {
			if node%every != 0 && node < many-2 {
				continue
			}
			for name, o := range changed(t, node) {
				if !yield(name, o) {
					return
				}
			}
		}
		for name, o := range lengthened(t) {
			if !yield(name, o) {
				return
			}
		}
	}
}

// changed are tries that differ from one at one node.
func changed(t api.Trie, node int) func(yield func(string, api.Trie) bool) {
	return func(yield func(string, api.Trie) bool) {
		for _, l := range listsOf(t) {
			for _, n := range []int{l.list[node] - 1, l.list[node] + 1, -1 << 63, -2, -1, 0, 1, 2, node, node - 1, node + 1, len(t.Up) - 1, len(t.Up), 1<<63 - 1} {
				o := copied(t)
				if l.put(&o, node, n); !same(o, t) && !yield(fmt.Sprintf("%s of node %d is %d", l.name, node, n), o) {
					return
				}
			}
		}
		for c := range 256 {
			o := copied(t)
			if o.Byte[node] = byte(c); !same(o, t) && !yield(fmt.Sprintf("Byte of node %d is %d", node, c), o) {
				return
			}
		}
		for other := range node {
			for _, along := range []bool{false, true} {
				if !yield(fmt.Sprintf("nodes %d and %d change places, their kids along %t", node, other, along), exchanged(t, node, other, along)) {
					return
				}
			}
		}
	}
}

// exchanged is a trie of which two nodes stand at each other's place; their kids go along, or they get each other's.
func exchanged(t api.Trie, a, b int, along bool) api.Trie {
	o := copied(t)
	o.Up[a], o.Up[b] = o.Up[b], o.Up[a]
	o.Byte[a], o.Byte[b] = o.Byte[b], o.Byte[a]
	o.Depth[a], o.Depth[b] = o.Depth[b], o.Depth[a]
	o.Word[a], o.Word[b] = o.Word[b], o.Word[a]
	for node, up := range o.Up {
		if along && up == a {
			o.Up[node] = b
		} else if along && up == b {
			o.Up[node] = a
		}
	}
	return o
}

// lists is one of a trie's lists of numbers, and how an entry of it is changed.
type lists struct {
	name string
	list []int
	put  func(t *api.Trie, node, n int)
}

func listsOf(t api.Trie) []lists {
	return []lists{
		{"Up", t.Up, func(t *api.Trie, node, n int) { t.Up[node] = n }},
		{"Depth", t.Depth, func(t *api.Trie, node, n int) { t.Depth[node] = n }},
		{"Word", t.Word, func(t *api.Trie, node, n int) { t.Word[node] = n }},
	}
}

// lengthened are tries of which one list, or all but one, are longer or shorter.
func lengthened(t api.Trie) func(yield func(string, api.Trie) bool) {
	return func(yield func(string, api.Trie) bool) {
		for which := range 1 << 4 {
			shorter, longer, none := copied(t), copied(t), copied(t)
			last := len(t.Up) - 1
			if which&1 != 0 {
				shorter.Up, longer.Up, none.Up = shorter.Up[:last], append(longer.Up, 0), nil
			}
			if which&2 != 0 {
				shorter.Depth, longer.Depth, none.Depth = shorter.Depth[:last], append(longer.Depth, 1), nil
			}
			if which&4 != 0 {
				shorter.Word, longer.Word, none.Word = shorter.Word[:last], append(longer.Word, -1), nil
			}
			if which&8 != 0 {
				shorter.Byte, longer.Byte, none.Byte = shorter.Byte[:last], append(longer.Byte, 255), nil
			}
			if which > 0 && (!yield(fmt.Sprintf("the lists %04b are shorter", which), shorter) ||
				!yield(fmt.Sprintf("the lists %04b are longer", which), longer) ||
				!yield(fmt.Sprintf("the lists %04b are nil", which), none)) {
				return
			}
		}
	}
}

// wrongTries are tries that may not be, of each kind.
func wrongTries() map[string]api.Trie {
	l := map[string]api.Trie{
		"of nothing":                 {},
		"of empty lists":             {Up: []int{}, Depth: []int{}, Word: []int{}, Byte: []byte{}},
		"of the root alone":          {Up: []int{0}, Depth: []int{0}, Word: []int{-1}, Byte: []byte{0}},
		"of the root, a word":        {Up: []int{0}, Depth: []int{0}, Word: []int{0}, Byte: []byte{0}},
		"with the root a word":       {Up: []int{0, 0}, Depth: []int{0, 1}, Word: []int{0, 1}, Byte: []byte{0, 'a'}},
		"with the root a later word": {Up: []int{0, 0}, Depth: []int{0, 1}, Word: []int{1, 0}, Byte: []byte{0, 'a'}},
		"without words":              {Up: []int{0, 0, 1}, Depth: []int{0, 1, 2}, Word: []int{-1, -1, -1}, Byte: []byte{0, 'a', 'b'}},
		"with a leaf that is none":   {Up: []int{0, 0, 0}, Depth: []int{0, 1, 1}, Word: []int{-1, 0, -1}, Byte: []byte{0, 'a', 'b'}},
		"with an Up below 0":         {Up: []int{0, -1}, Depth: []int{0, 1}, Word: []int{-1, 0}, Byte: []byte{0, 'a'}},
		"with an Up too great":       {Up: []int{0, 2}, Depth: []int{0, 1}, Word: []int{-1, 0}, Byte: []byte{0, 'a'}},
		"with a node below itself":   {Up: []int{0, 1}, Depth: []int{0, 1}, Word: []int{-1, 0}, Byte: []byte{0, 'a'}},
		"with a root below a node":   {Up: []int{1, 0}, Depth: []int{0, 1}, Word: []int{-1, 0}, Byte: []byte{0, 'a'}},
		"with a circle":              {Up: []int{0, 2, 1}, Depth: []int{0, 1, 2}, Word: []int{-1, -1, 0}, Byte: []byte{0, 'a', 'b'}},
		"with a circle below":        {Up: []int{0, 0, 3, 2}, Depth: []int{0, 1, 2, 3}, Word: []int{-1, 0, -1, 1}, Byte: []byte{0, 'a', 'b', 'c'}},
		"in another order of bytes":  {Up: []int{0, 0, 0}, Depth: []int{0, 1, 1}, Word: []int{-1, 0, 1}, Byte: []byte{0, 'b', 'a'}},
		"with the same node twice":   {Up: []int{0, 0, 0}, Depth: []int{0, 1, 1}, Word: []int{-1, 0, 1}, Byte: []byte{0, 'a', 'a'}},
		"with the deeper one ahead":  {Up: []int{0, 0, 1, 0}, Depth: []int{0, 1, 2, 1}, Word: []int{-1, 0, 1, 2}, Byte: []byte{0, 'a', 'a', 'b'}},
		"with the lower one ahead":   {Up: []int{0, 0, 0, 2, 1}, Depth: []int{0, 1, 1, 2, 2}, Word: []int{-1, -1, -1, 0, 1}, Byte: []byte{0, 'a', 'b', 'a', 'b'}},
		"with a number twice":        {Up: []int{0, 0, 0}, Depth: []int{0, 1, 1}, Word: []int{-1, 0, 0}, Byte: []byte{0, 'a', 'b'}},
		"with a number left out":     {Up: []int{0, 0, 0}, Depth: []int{0, 1, 1}, Word: []int{-1, 0, 2}, Byte: []byte{0, 'a', 'b'}},
		"without the number 0":       {Up: []int{0, 0, 0}, Depth: []int{0, 1, 1}, Word: []int{-1, 1, 2}, Byte: []byte{0, 'a', 'b'}},
		"with a number below -1":     {Up: []int{0, 0, 1}, Depth: []int{0, 1, 2}, Word: []int{-1, -2, 0}, Byte: []byte{0, 'a', 'b'}},
	}
	for _, words := range tooGreat() {
		l[list{false, words}.String()] = trieByWords(words)
	}
	return l
}
