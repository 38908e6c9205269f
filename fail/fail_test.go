package fail_test

import (
	"math"
	"slices"
	"strings"
	"testing"

	"teasel/api"
	"teasel/fail"
)

func TestLinksByHand(t *testing.T) {
	for _, c := range []struct {
		words []string
		links []int
	}{
		{[]string{"he", "she", "her"}, []int{0, 0, 0, 0, 1, 0, 3}},
		{[]string{"a"}, []int{0, 0}},
		{[]string{"ab"}, []int{0, 0, 0}},
		{[]string{"aaaa"}, []int{0, 0, 1, 2, 3}},
		{[]string{"\x00\x00\x00"}, []int{0, 0, 1, 2}},
		{[]string{"\xff\x00", "\x00"}, []int{0, 0, 0, 1}},
		{[]string{"\x00\xff"}, []int{0, 0, 0}},
		{[]string{"abab"}, []int{0, 0, 0, 1, 2}},
		{[]string{"a", "ab", "abc"}, []int{0, 0, 0, 0}},
		{[]string{"abc", "bc", "c"}, []int{0, 0, 0, 0, 2, 3, 5}},
		{[]string{"bb", "ba", "ab"}, []int{0, 0, 0, 2, 1, 2}},
		{[]string{"abcd", "bcx"}, []int{0, 0, 0, 2, 0, 4, 0, 0}},
		{[]string{"aabaaab"}, []int{0, 0, 1, 0, 1, 2, 2, 3}},
	} {
		for _, fold := range []bool{false, true} {
			l := list{fold, c.words}
			if links, e := fail.Links(made(t, l)); !slices.Equal(links, c.links) || e != api.OK {
				t.Errorf("%s: %v, %d and not %v", l, links, e, c.links)
			}
		}
	}
}

// TestLinksGoByTheWords: of each node the node of the longest proper suffix of its bytes that is one (P8.1).
func TestLinksGoByTheWords(t *testing.T) {
	for _, l := range slices.Concat(ordinary(), greatest(), small()) {
		want := ofWords(l.words).links()
		if links, e := fail.Links(made(t, l)); !slices.Equal(links, want) || e != api.OK {
			t.Errorf("%s: %v, %d and not %v", l, links, e, want)
		}
	}
}

// TestLinksHaveLesserNumbers: but the root's, which is its own link (P8.3).
func TestLinksHaveLesserNumbers(t *testing.T) {
	for _, l := range slices.Concat(ordinary(), greatest()) {
		links, _ := fail.Links(made(t, l))
		for node, link := range links {
			if link < 0 || link > node || link == node && node != 0 {
				t.Errorf("%s: the link of %d is %d", l, node, link)
			}
		}
	}
}

// TestOrderOfTheWords: which numbers the words have, and which nodes are words, makes no difference.
func TestOrderOfTheWords(t *testing.T) {
	for _, l := range slices.Concat(ordinary(), greatest()) {
		want, _ := fail.Links(made(t, l))
		turned := list{l.fold, slices.Clone(l.words)}
		slices.Reverse(turned.words)
		if links, e := fail.Links(made(t, turned)); !slices.Equal(links, want) || e != api.OK {
			t.Errorf("%s, turned round: %v, %d and not %v", l, links, e, want)
		}
		more := list{l.fold, slices.Clone(l.words)}
		for _, bytes := range nodesByWords(l.words)[1:] {
			if len(more.words) < 10 && !slices.Contains(more.words, bytes) {
				more.words = append(more.words, bytes)
			}
		}
		if len(strings.Join(more.words, "")) > api.MaxBytes {
			continue
		}
		if links, e := fail.Links(made(t, more)); !slices.Equal(links, want) || e != api.OK {
			t.Errorf("%s, with beginnings that are words: %v, %d and not %v", l, links, e, want)
		}
	}
}

// TestRightLists: just the links are, whichever entry is another one, and whichever entries are left out or too many (P8.1).
func TestRightLists(t *testing.T) {
	for _, l := range slices.Concat(ordinary(), greatest()) {
		tree, links := made(t, l), ofWords(l.words).links()
		if !fail.Right(tree, links...) {
			t.Errorf("%s: %v are not the links", l, links)
		}
		for name, other := range otherLists(links) {
			if fail.Right(tree, other...) {
				t.Fatalf("%s: %s: %v are the links", l, name, other)
			}
		}
	}
}

// otherLists are lists that differ from one, which has two entries at least.
func otherLists(links []int) func(yield func(string, []int) bool) {
	many := len(links)
	return func(yield func(string, []int) bool) {
		for name, other := range map[string][]int{
			"nil": nil, "none": {}, "the root's alone": {0}, "one short": links[:many-1], "without the first": links[1:],
			"one too many": slices.Concat(links, []int{0}), "one too many, the same": slices.Concat(links, links[many-1:]),
			"one too many ahead": slices.Concat([]int{0}, links), "twice": slices.Concat(links, links),
		} {
			if !yield(name, other) {
				return
			}
		}
		for node, link := range links {
			for _, n := range slices.Concat(far, []int{0, 1, 2, link - 1, link + 1, node - 1, node, node + 1, many - 1, many, math.MinInt + link, link + 1<<32, -link}) {
				other := slices.Clone(links)
				if other[node] = n; n != link && !yield("another entry", other) {
					return
				}
			}
			before := links[max(0, node-1)]
			other := slices.Clone(links)
			other[node], other[max(0, node-1)] = before, link
			if before != link && !yield("two entries exchanged", other) {
				return
			}
		}
	}
}

// TestRightOneByOne: entries that are handed over one by one.
func TestRightOneByOne(t *testing.T) {
	tree := made(t, list{false, []string{"he", "she", "her"}})
	if !fail.Right(tree, 0, 0, 0, 0, 1, 0, 3) {
		t.Error("not the links")
	}
	if fail.Right(tree) || fail.Right(tree, 0) || fail.Right(tree, 0, 0, 0, 0, 1, 0) || fail.Right(tree, 0, 0, 0, 0, 1, 0, 2) || fail.Right(tree, 0, 0, 0, 0, 1, 0, 3, 0) {
		t.Error("others are the links")
	}
}

// TestRightIsOfThisTrie: the links of another trie are not this one's, unless they are the same.
func TestRightIsOfThisTrie(t *testing.T) {
	lists := append(ordinary(), greatest()...)
	for _, a := range lists {
		tree, own := made(t, a), ofWords(a.words).links()
		for _, b := range lists {
			links := ofWords(b.words).links()
			if fail.Right(tree, links...) != slices.Equal(links, own) {
				t.Errorf("%s, with the links of %s: %t", a, b, fail.Right(tree, links...))
			}
		}
	}
}

func TestChainByHand(t *testing.T) {
	for _, c := range []struct {
		words  []string
		chains [][]int
	}{
		{[]string{"he", "she", "her"}, [][]int{{0}, {1, 0}, {2, 0}, {3, 0}, {4, 1, 0}, {5, 0}, {6, 3, 0}}},
		{[]string{"a"}, [][]int{{0}, {1, 0}}},
		{[]string{"aaaa"}, [][]int{{0}, {1, 0}, {2, 1, 0}, {3, 2, 1, 0}, {4, 3, 2, 1, 0}}},
		{[]string{"abc", "bc", "c"}, [][]int{{0}, {1, 0}, {2, 0}, {3, 0}, {4, 2, 0}, {5, 3, 0}, {6, 5, 3, 0}}},
	} {
		l := list{false, c.words}
		tree := made(t, l)
		for node, want := range c.chains {
			if chain := fail.Chain(tree, node); !slices.Equal(chain, want) {
				t.Errorf("%s: the chain of %d is %v and not %v", l, node, chain, want)
			}
		}
	}
}

// TestChainGoesByTheWords: it has just the nodes whose bytes end the node's, the longest first, the root last; each but the first is the link of the one ahead of it (P8.1, P8.3).
func TestChainGoesByTheWords(t *testing.T) {
	for _, l := range slices.Concat(ordinary(), greatest(), small()) {
		tree, words := made(t, l), ofWords(l.words)
		links := words.links()
		for node := range words.nodes {
			want, chain := words.chain(node), fail.Chain(tree, node)
			if !slices.Equal(chain, want) {
				t.Fatalf("%s: the chain of %d is %v and not %v", l, node, chain, want)
			}
			for i := range len(chain) - 1 {
				if links[chain[i]] != chain[i+1] {
					t.Fatalf("%s: the chain of %d, %v, does not go by the links", l, node, chain)
				}
			}
		}
	}
}

// TestNoSuchNode: of such a node nothing is told (P8.1, P8.2).
func TestNoSuchNode(t *testing.T) {
	for _, l := range slices.Concat(ordinary(), greatest()) {
		tree := made(t, l)
		many := len(tree.Up)
		for _, node := range append([]int{many, many + 1, 2 * many, -many, 1<<32 + 1, -1<<63 + 1, 1 << 62}, far...) {
			if chain := fail.Chain(tree, node); len(chain) != 0 {
				t.Errorf("%s: the chain of %d is %v", l, node, chain)
			}
			for _, c := range []byte("\x00aehsx\xff") {
				if to, known := fail.Step(tree, node, c); to != 0 || known {
					t.Errorf("%s: from %d by %d: %d, %t", l, node, c, to, known)
				}
			}
		}
	}
}

func TestDeepestByHand(t *testing.T) {
	tree := made(t, list{false, []string{"he", "she", "her"}})
	for bytes, want := range map[string]int{
		"ushe": 6, "hes": 2, "": 0, "h": 1, "s": 2, "he": 3, "sh": 4, "her": 5, "she": 6,
		"e": 0, "r": 0, "x": 0, "hh": 1, "ss": 2, "hers": 2, "sher": 5, "ushers": 2, "shh": 1, "sshe": 6, "hehe": 3, "shes": 2, "herh": 1,
		"xyz": 0, "her ": 0, "\x00": 0, "\xff": 0, "USHE": 0, "sHe": 0, "shE": 0, "Sh": 1, "she\x00": 0, "heshe": 6, "shshsh": 4,
	} {
		if node, known := fail.Deepest(tree, []byte(bytes)...); node != want || !known {
			t.Errorf("%q: %d, %t and not %d", bytes, node, known, want)
		}
	}
	for i, none := range [][]byte{nil, {}} {
		if node, known := fail.Deepest(tree, none...); node != 0 || !known {
			t.Errorf("no bytes, %d: %d, %t", i, node, known)
		}
	}
	if node, known := fail.Deepest(tree); node != 0 || !known {
		t.Errorf("no bytes: %d, %t", node, known)
	}
	if node, known := fail.Deepest(tree, 'u', 's', 'h', 'e'); node != 6 || !known {
		t.Errorf("one by one: %d, %t", node, known)
	}
}

// textsOf are bytes of all kinds, for words that are looked for: these, their beginnings and ends, such behind one another, and others.
func textsOf(words []string) []string {
	texts := []string{"", "\x00", "\xff", "a", "q", "abcabc", "\x00\xff\x00\xff", strings.Repeat("x", 100), "?" + strings.Repeat("ushers", 20)}
	for i, w := range words {
		next := words[(i+1)%len(words)]
		texts = append(texts, w+"q", w+w+w, w+next, w[:len(w)/2]+next, w+next[:len(next)/2], strings.Repeat("?", 40)+w, strings.Repeat(w, 40), strings.ToUpper(w))
		for k := range len(w) + 1 {
			texts = append(texts, w[:k], w[k:], "q"+w[k:], "\x00"+w[:k])
		}
	}
	return texts
}

// TestDeepestGoesByTheWords: the node of the longest suffix that is one, and yes (P8.2).
func TestDeepestGoesByTheWords(t *testing.T) {
	for _, l := range slices.Concat(ordinary(), greatest()) {
		tree, words := made(t, l), ofWords(l.words)
		for _, text := range textsOf(l.words) {
			want := words.deepest(text)
			if node, known := fail.Deepest(tree, []byte(text)...); node != want || !known {
				t.Fatalf("%s: %q: %d, %t and not %d", l, text, node, known, want)
			}
		}
	}
}

// TestDeepestOfAllShort: of all short bytes, for all small sets.
func TestDeepestOfAllShort(t *testing.T) {
	texts := []string{""}
	for from := 0; len(texts[from]) < 5; from++ {
		texts = append(texts, texts[from]+"\x00", texts[from]+"\xff")
	}
	for _, l := range small() {
		tree, words := made(t, l), ofWords(l.words)
		for _, text := range texts {
			want := words.deepest(text)
			if node, known := fail.Deepest(tree, []byte(text)...); node != want || !known {
				t.Fatalf("%q: %q: %d, %t and not %d", l.words, text, node, known, want)
			}
		}
	}
}

// TestDeepestOfMany: bytes far longer than any word are answered by their end alone.
func TestDeepestOfMany(t *testing.T) {
	long := strings.Repeat("x", api.MaxLength)
	for _, c := range []struct {
		words []string
		text  string
		want  int
	}{
		{[]string{"he", "she", "her"}, strings.Repeat("ushe", 1<<18), 6},
		{[]string{"he", "she", "her"}, strings.Repeat("she", 1<<18) + "q", 0},
		{[]string{long}, strings.Repeat("x", 1<<20), api.MaxLength},
		{[]string{long}, strings.Repeat("x", 1<<20) + "y" + long[1:], api.MaxLength - 1},
		{[]string{"y" + long[1:]}, strings.Repeat("?", 1<<20) + "y" + long[1:], api.MaxLength},
		{[]string{"y" + long[1:]}, strings.Repeat("y", 1<<20) + long, 0},
	} {
		tree := made(t, list{false, c.words})
		if node, known := fail.Deepest(tree, []byte(c.text)...); node != c.want || !known {
			t.Errorf("%q in %d bytes: %d, %t and not %d", c.words, len(c.text), node, known, c.want)
		}
	}
}

func TestStepByHand(t *testing.T) {
	tree := made(t, list{false, []string{"he", "she", "her"}})
	for _, c := range []struct {
		node int
		c    byte
		want int
	}{
		{0, 'h', 1}, {0, 's', 2}, {1, 'e', 3}, {2, 'h', 4}, {3, 'r', 5}, {4, 'e', 6}, // to a kid
		{6, 'r', 5}, {1, 'h', 1}, {1, 's', 2}, {3, 's', 2}, {4, 's', 2}, {4, 'h', 1}, {5, 'h', 1}, {5, 's', 2}, {6, 's', 2}, {2, 's', 2}, // on from a link
		{0, 'e', 0}, {0, 0, 0}, {0, 255, 0}, {2, 'e', 0}, {3, 'e', 0}, {6, 'e', 0}, {6, 'R', 0}, {5, 'r', 0}, {4, 'q', 0}, // to the root
	} {
		if to, known := fail.Step(tree, c.node, c.c); to != c.want || !known {
			t.Errorf("from %d by %q: %d, %t and not %d", c.node, c.c, to, known, c.want)
		}
	}
}

// TestStepGoesByTheWords: from any node by any byte (P8.2).
func TestStepGoesByTheWords(t *testing.T) {
	for _, l := range slices.Concat(ordinary(), greatest()) {
		tree, words := made(t, l), ofWords(l.words)
		for node, bytes := range words.nodes {
			for c := range 256 {
				if len(words.nodes) > 100 && node%8 != 0 && node < len(words.nodes)-8 {
					continue // of many nodes some, and the last ones
				}
				want := words.deepest(bytes + string([]byte{byte(c)}))
				if to, known := fail.Step(tree, node, byte(c)); to != want || !known {
					t.Fatalf("%s: from %d by %d: %d, %t and not %d", l, node, c, to, known, want)
				}
			}
		}
	}
}

// TestStepOfAllSmall: from any node of all small sets, by the bytes of the words, those beside them, and others.
func TestStepOfAllSmall(t *testing.T) {
	for _, l := range small() {
		tree, words := made(t, l), ofWords(l.words)
		for node, bytes := range words.nodes {
			for _, c := range []byte{0, 1, 127, 128, 254, 255} {
				want := words.deepest(bytes + string([]byte{c}))
				if to, known := fail.Step(tree, node, c); to != want || !known {
					t.Fatalf("%q: from %d by %d: %d, %t and not %d", l.words, node, c, to, known, want)
				}
			}
		}
	}
}

// TestByteByByte: what is deepest of b and c behind it is the step from what is deepest of b (P8.3).
func TestByteByByte(t *testing.T) {
	for _, l := range slices.Concat(ordinary(), greatest()) {
		tree := made(t, l)
		text := []byte(strings.Join(l.words[:min(6, len(l.words))], "") + "ushers\x00\xffxabcabab\xff\x00\x00" + strings.Repeat("x", 40) + "y" + strings.Repeat("x", 31))
		node := 0
		for i, c := range text {
			node, _ = fail.Step(tree, node, c)
			if deepest, known := fail.Deepest(tree, text[:i+1]...); deepest != node || !known {
				t.Fatalf("%s: behind %d bytes %d, %t, by steps %d", l, i+1, deepest, known, node)
			}
		}
	}
}
