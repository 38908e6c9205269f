package trie_test

import (
	"slices"
	"testing"

	"teasel/api"
	"teasel/trie"
)

// anyKind are tries of each kind, such as may be and such as may not.
func anyKind() map[string]api.Trie {
	l := wrongTries()
	for _, o := range append(ordinary(), greatest()...) {
		l[o.String()] = trieByWords(o.words)
	}
	for name, o := range others(trieByWords([]string{"he", "she", "her"}), 10) {
		l[name] = o
	}
	return l
}

// TestOwnIsTheSame: of any trie, in all its entries (P7.1).
func TestOwnIsTheSame(t *testing.T) {
	for name, tree := range anyKind() {
		before := copied(tree)
		own := trie.Own(tree)
		if !same(own, before) || !trie.Same(own, tree) || !trie.Same(tree, own) || !trie.Same(tree, tree) {
			t.Errorf("%s: of its own %v", name, own)
		}
		spoil(own)
		if !same(tree, before) {
			t.Errorf("%s: spoilt with what was told of it", name)
		}
		own = trie.Own(tree)
		spoil(tree)
		if !same(own, before) {
			t.Errorf("%s: what was told is spoilt with it", name)
		}
	}
}

// TestSameInAll: tries that differ in one entry, or in a list's length, are not the same, whether they may be or not (P7.1).
func TestSameInAll(t *testing.T) {
	for _, l := range ordinary() {
		tree := trieByWords(l.words)
		for name, o := range others(tree, 12) {
			if trie.Same(tree, o) != same(tree, o) || trie.Same(o, tree) != same(tree, o) {
				t.Errorf("%s, %s: the same %t, turned round %t", l, name, trie.Same(tree, o), trie.Same(o, tree))
			}
		}
	}
	wrong := api.Trie{Up: []int{9, -9}, Depth: []int{4}, Word: []int{1, 2, 3}, Byte: []byte{7}}
	for _, c := range []struct {
		other api.Trie
		want  bool
	}{
		{api.Trie{Up: []int{9, -9}, Depth: []int{4}, Word: []int{1, 2, 3}, Byte: []byte{7}}, true},
		{api.Trie{Up: []int{9, -8}, Depth: []int{4}, Word: []int{1, 2, 3}, Byte: []byte{7}}, false},
		{api.Trie{Up: []int{9, -9}, Depth: []int{5}, Word: []int{1, 2, 3}, Byte: []byte{7}}, false},
		{api.Trie{Up: []int{9, -9}, Depth: []int{4}, Word: []int{1, 2, 4}, Byte: []byte{7}}, false},
		{api.Trie{Up: []int{9, -9}, Depth: []int{4}, Word: []int{1, 2, 3}, Byte: []byte{8}}, false},
		{api.Trie{Up: []int{9}, Depth: []int{4}, Word: []int{1, 2, 3}, Byte: []byte{7}}, false},
		{api.Trie{Up: []int{9, -9}, Word: []int{1, 2, 3}, Byte: []byte{7}}, false},
		{api.Trie{Up: []int{9, -9}, Depth: []int{4}, Word: []int{1, 2, 3, 0}, Byte: []byte{7}}, false},
		{api.Trie{Up: []int{9, -9}, Depth: []int{4}, Word: []int{1, 2, 3}, Byte: []byte{7, 0}}, false},
		{api.Trie{}, false},
	} {
		if trie.Same(wrong, c.other) != c.want || trie.Same(c.other, wrong) != c.want {
			t.Errorf("%v and %v: the same %t", wrong, c.other, trie.Same(wrong, c.other))
		}
	}
	if !trie.Same(api.Trie{}, api.Trie{Up: []int{}, Depth: []int{}, Word: []int{}, Byte: []byte{}}) {
		t.Error("nil lists and empty ones: not the same")
	}
}

// spoil changes all the memory of a trie, spare room included.
func spoil(t api.Trie) {
	for _, l := range [][]int{t.Up, t.Depth, t.Word} {
		l = l[:cap(l)]
		for i := range l {
			l[i] = -7
		}
	}
	clear(t.Byte[:cap(t.Byte)])
	for i := range t.Byte {
		t.Byte[i] = 77
	}
}

// roomy is a trie with room to spare behind each list, and all that room.
func roomy(t api.Trie) (tree, room api.Trie) {
	room = api.Trie{Up: append(slices.Clone(t.Up), 51, 52), Depth: append(slices.Clone(t.Depth), 53, 54), Word: append(slices.Clone(t.Word), 55, 56), Byte: append(slices.Clone(t.Byte), 57, 58)}
	many := len(t.Up)
	return api.Trie{Up: room.Up[:many], Depth: room.Depth[:many], Word: room.Word[:many], Byte: room.Byte[:many]}, room
}

// TestTriesStay: a trie that is handed in stays as it is, spare room included, and what is told is new (R4).
func TestTriesStay(t *testing.T) {
	for _, l := range ordinary() {
		tree, room := roomy(trieByWords(l.words))
		before := copied(room)
		trie.Right(tree)
		trie.Many(tree)
		for node := range len(tree.Up) {
			bytes, _ := trie.Spell(tree, node)
			kept := slices.Clone(bytes)
			trie.Find(tree, bytes...)
			if !slices.Equal(bytes, kept) {
				t.Fatalf("%s: the bytes %q are now %q", l, kept, bytes)
			}
			again, _ := trie.Spell(tree, node)
			clear(bytes[:cap(bytes)])
			trie.Kid(tree, node, 'h')
			if !slices.Equal(again, kept) {
				t.Fatalf("%s: node %d, spelt twice, is spoilt", l, node)
			}
		}
		again := trie.Words(tree)
		words := trie.Words(tree)
		for number, w := range words {
			w = w[:cap(w)]
			for i := range w {
				w[i] = '!'
			}
			if got := toStrings(words[number+1:]); !slices.Equal(got, l.words[number+1:]) {
				t.Fatalf("%s: changed with word %d: %q", l, number, got)
			}
		}
		clear(words[:cap(words)])
		spoil(trie.Own(tree))
		if !same(room, before) || !slices.Equal(toStrings(again), l.words) {
			t.Errorf("%s: what was handed in is now %v; what was told again %q", l, room, again)
		}
		spoil(tree)
		if !slices.Equal(toStrings(again), l.words) {
			t.Errorf("%s: changed with what was handed in: %q", l, again)
		}
	}
}

// TestSetsStay: a set that is handed in stays as it is, spare room included, and its trie is new (R4).
func TestSetsStay(t *testing.T) {
	room := []byte("hesheher-spare")
	list := [][]byte{room[:2], room[2:5], room[5:8], []byte("spare")}
	want := trieByWords([]string{"he", "she", "her"})
	for _, fold := range []bool{false, true} {
		s := api.Set{Fold: fold, Words: list[:3]}
		first, _ := trie.Make(s)
		other, _ := trie.Make(s)
		spoil(first)
		if !same(other, want) {
			t.Errorf("fold %t: spoilt with another one: %v", fold, other)
		}
		if string(room) != "hesheher-spare" || !slices.Equal(toStrings(list), []string{"he", "she", "her", "spare"}) {
			t.Errorf("fold %t: what was handed in is now %q, of %q", fold, toStrings(list), room)
		}
		copy(room, "????????")
		if !same(other, want) {
			t.Errorf("fold %t: changed with the set: %v", fold, other)
		}
		copy(room, "hesheher")
	}
}

// TestListsAreApart: no two lists of a trie that is told share memory.
func TestListsAreApart(t *testing.T) {
	want := trieByWords([]string{"he", "she", "her"})
	told, _ := trie.Make(list{false, []string{"he", "she", "her"}}.set())
	for name, tree := range map[string]api.Trie{"made": told, "of its own": trie.Own(want)} {
		for _, l := range listsOf(tree) {
			before := copied(tree)
			all := l.list[:cap(l.list)]
			for i := range all {
				all[i] = 1000
			}
			for node := range l.list {
				l.put(&before, node, 1000)
			}
			if !same(tree, before) {
				t.Errorf("%s: with %s other lists change: %v", name, l.name, tree)
			}
		}
	}
}
