package fail_test

import (
	"slices"
	"testing"

	"teasel/api"
	"teasel/fail"
	"teasel/trie"
)

// roomy is a trie with room to spare behind each list, and all that room.
func roomy(t api.Trie) (tree, room api.Trie) {
	many := len(t.Up)
	room = api.Trie{Up: append(slices.Clone(t.Up), 51, 52), Depth: append(slices.Clone(t.Depth), 53, 54), Word: append(slices.Clone(t.Word), 55, 56), Byte: append(slices.Clone(t.Byte), 57, 58)}
	return api.Trie{Up: room.Up[:many], Depth: room.Depth[:many], Word: room.Word[:many], Byte: room.Byte[:many]}, room
}

// spoil changes all of a list's memory, spare room included.
func spoil(list []int) {
	list = list[:cap(list)]
	for i := range list {
		list[i] = -7
	}
}

// TestHandedInStays: a trie, its links and bytes that are handed in stay as they are, spare room included, whatever is done with what is told (R4).
func TestHandedInStays(t *testing.T) {
	for _, l := range slices.Concat(ordinary(), greatest()) {
		tree, room := roomy(made(t, l))
		before := trie.Own(room)
		words := ofWords(l.words)
		want := words.links()
		given := append(slices.Clone(want), 71, 72)
		text := []byte("usher" + l.words[0] + "-spare")
		kept := slices.Clone(text)

		links, _ := fail.Links(tree)
		spoil(links)
		fail.Right(tree, given[:len(want)]...)
		fail.Deepest(tree, text[:len(text)-6]...)
		for node := range want {
			spoil(fail.Chain(tree, node))
			fail.Step(tree, node, 'h')
		}
		if !trie.Same(room, before) {
			t.Errorf("%s: the trie is now %v", l, room)
		}
		if !slices.Equal(given, append(want, 71, 72)) || !slices.Equal(text, kept) {
			t.Errorf("%s: what was handed in is now %v, %q", l, given, text)
		}
	}
}

// TestToldIsNew: what is told is not spoilt with another answer, or with what was handed in, nor is what is told later (R4).
func TestToldIsNew(t *testing.T) {
	for _, l := range slices.Concat(ordinary(), greatest()) {
		tree, words := made(t, l), ofWords(l.words)
		last := len(words.nodes) - 1
		first, _ := fail.Links(tree)
		second, _ := fail.Links(tree)
		one, other := fail.Chain(tree, last), fail.Chain(tree, last)
		spoil(first)
		spoil(one)
		if third, _ := fail.Links(tree); !slices.Equal(third, words.links()) || !fail.Right(tree, third...) || !slices.Equal(fail.Chain(tree, last), words.chain(last)) {
			t.Errorf("%s: told later: %v, %v", l, third, fail.Chain(tree, last))
		}
		spoil(tree.Up)
		spoil(tree.Depth)
		spoil(tree.Word)
		clear(tree.Byte)
		if !slices.Equal(second, words.links()) || !slices.Equal(other, words.chain(last)) {
			t.Errorf("%s: spoilt: %v, %v", l, second, other)
		}
	}
}

// TestNothingIsKept: answers go by the trie as it is, also where it was another one when it was asked before (R3).
func TestNothingIsKept(t *testing.T) {
	memory := made(t, list{false, []string{"aba", "ba"}})
	for range 2 {
		for _, words := range [][]string{{"aba", "ba"}, {"abb", "bb"}, {"bab", "ab"}, {"abc", "bc"}} {
			next := made(t, list{false, words})
			copy(memory.Up, next.Up)
			copy(memory.Depth, next.Depth)
			copy(memory.Word, next.Word)
			copy(memory.Byte, next.Byte)
			want := ofWords(words)
			if links, e := fail.Links(memory); e != api.OK || !slices.Equal(links, want.links()) || !fail.Right(memory, links...) {
				t.Errorf("%q: the links %v, %d", words, links, e)
			}
			for node, bytes := range want.nodes {
				if chain := fail.Chain(memory, node); !slices.Equal(chain, want.chain(node)) {
					t.Errorf("%q: the chain of %d is %v", words, node, chain)
				}
				for _, c := range []byte("abc") {
					if to, known := fail.Step(memory, node, c); to != want.deepest(bytes+string(c)) || !known {
						t.Errorf("%q: from %d by %q: %d, %t", words, node, c, to, known)
					}
				}
				if to, known := fail.Deepest(memory, []byte("q"+bytes)...); to != node || !known {
					t.Errorf("%q: %q: %d, %t", words, bytes, to, known)
				}
			}
		}
		memory.Word[0] = 7
		checkNothing(t, "the same memory, which may not be", memory)
		memory.Word[0] = -1
	}
}
