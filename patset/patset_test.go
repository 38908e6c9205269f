package patset_test

import (
	"bytes"
	"fmt"
	"math/bits"
	"slices"
	"strings"
	"testing"

	"teasel/api"
	"teasel/patset"
)

var both = []bool{false, true}

// a32 is a longest word; more words of a's add no node to it.
var a32 = strings.Repeat("a", api.MaxLength)

// apart are so many bytes in words of up to long bytes, no two of which begin with the same byte.
func apart(together, long int) []string {
	var l []string
	for first := byte(1); together > 0; first++ {
		n := min(together, long)
		l = append(l, string([]byte{first})+strings.Repeat("x", n-1))
		together -= n
	}
	return l
}

// ordinary are lists of words that may be.
func ordinary() [][]string {
	return [][]string{
		{"he"},
		{"he", "she", "her"},
		{"he", "she", "He", "her"},
		{"HE", "he", "hE", "He"},
		{"she", "he", "she", "he", "she"},
		{"a", "ab", "abc", "abcd"},
		{"abcd", "abc", "ab", "a"},
		{"A", "aB", "Abc", "ABCD"},
		{"x", "y", "z"},
		{"@[`{", "`{@["},
		{"\x00", "\x00\x00", "\xff", "\xc1", "\xe1"},
		{"Ushers", "uSHERS", "ushers and she"},
	}
}

// greatest are lists that may be, at an edge of what may.
func greatest() [][]string {
	return [][]string{
		singles(api.MaxWords),
		slices.Repeat([]string{"he"}, api.MaxWords),
		{a32},
		{a32, "a", a32},
		of600(),
		append([]string{"b", "c"}, of600()[2:]...),
		apart(api.MaxStates-1, api.MaxLength),
	}
}

// singles are so many words of one byte, no two of which are the same, with fold either.
func singles(many int) []string {
	var l []string
	for i := range many {
		l = append(l, string([]byte{byte(128 + i)}))
	}
	return l
}

// of600 are just MaxBytes bytes in words of a's.
func of600() []string {
	l := slices.Repeat([]string{a32}, api.MaxBytes/api.MaxLength)
	return append(l, a32[:api.MaxBytes%api.MaxLength])
}

// small are all lists of up to three words, of up to two bytes each.
func small() [][]string {
	words := []string{""}
	for _, c := range "aAb" {
		words = append(words, string(c))
		for _, d := range "aAb" {
			words = append(words, string(c)+string(d))
		}
	}
	lists := [][]string{nil}
	for from := 0; len(lists[len(lists)-1]) < 3; {
		upTo := len(lists)
		for _, l := range lists[from:upTo] {
			for _, w := range words {
				lists = append(lists, append(slices.Clone(l), w))
			}
		}
		from = upTo
	}
	return lists
}

// all are lists of each kind, such as may be and such as may not.
func all() [][]string {
	l := slices.Concat(ordinary(), greatest(), small())
	for k := range faults {
		l = append(l, faults[k].words, append([]string{"he"}, faults[k].words...))
	}
	return append(l, singles(api.MaxWords+1), []string{a32 + "a"}, append(of600(), "a"), apart(api.MaxStates, api.MaxLength))
}

// faults are words that bring one error each into a list, in the order of the table, and none of the others.
var faults = []struct {
	e     api.Errno
	words []string
}{
	{api.ErrMany, slices.Repeat([]string{"a"}, api.MaxWords+1)},
	{api.ErrEmpty, []string{""}},
	{api.ErrLong, []string{a32 + "a"}},
	{api.ErrBytes, slices.Repeat([]string{a32}, 19)},
	{api.ErrStates, apart(401, 29)},
}

func TestCheckByHand(t *testing.T) {
	for _, c := range []struct {
		name           string
		words          []string
		plain, folding api.Errno
	}{
		{"no words", nil, api.ErrNone, api.ErrNone},
		{"an empty word", []string{""}, api.ErrEmpty, api.ErrEmpty},
		{"an empty word ahead", []string{"", "he"}, api.ErrEmpty, api.ErrEmpty},
		{"an empty word between", []string{"he", "", "she"}, api.ErrEmpty, api.ErrEmpty},
		{"an empty word behind", []string{"he", ""}, api.ErrEmpty, api.ErrEmpty},
		{"one byte", []string{"\x00"}, api.OK, api.OK},
		{"just MaxWords words", singles(64), api.OK, api.OK},
		{"one word more", singles(65), api.ErrMany, api.ErrMany},
		{"just MaxWords words, all the same", slices.Repeat([]string{"he"}, 64), api.OK, api.OK},
		{"one word more, all the same", slices.Repeat([]string{"he"}, 65), api.ErrMany, api.ErrMany},
		{"many more words", slices.Repeat([]string{"he"}, 1000), api.ErrMany, api.ErrMany},
		{"a word of just MaxLength bytes", []string{strings.Repeat("x", 32)}, api.OK, api.OK},
		{"of one more", []string{strings.Repeat("x", 33)}, api.ErrLong, api.ErrLong},
		{"of one more, ahead", []string{strings.Repeat("x", 33), "he"}, api.ErrLong, api.ErrLong},
		{"of one more, behind", []string{"he", strings.Repeat("x", 33)}, api.ErrLong, api.ErrLong},
		{"of many more", []string{strings.Repeat("x", 100000)}, api.ErrLong, api.ErrLong},
		{"just MaxBytes bytes", of600(), api.OK, api.OK},
		{"one byte more", append(of600(), "a"), api.ErrBytes, api.ErrBytes},
		{"one byte more, ahead", append([]string{"a"}, of600()...), api.ErrBytes, api.ErrBytes},
		{"one byte more, in a word", append(of600()[:18], a32[:25]), api.ErrBytes, api.ErrBytes},
		{"just MaxStates nodes", apart(399, 32), api.OK, api.OK},
		{"one node more", apart(400, 32), api.ErrStates, api.ErrStates},
		{"just MaxBytes bytes, all of them nodes", apart(600, 32), api.ErrStates, api.ErrStates},
		{"one byte more, all of them nodes", apart(601, 32), api.ErrBytes, api.ErrBytes},
		{"as many nodes by fold alone", greatAndSmall(399), api.ErrStates, api.OK},
		{"one more by fold alone", greatAndSmall(400), api.ErrStates, api.ErrStates},
	} {
		if got := patset.Check(false, ofStrings(c.words)...); got != c.plain {
			t.Errorf("%s, without fold: %d and not %d", c.name, got, c.plain)
		}
		if got := patset.Check(true, ofStrings(c.words)...); got != c.folding {
			t.Errorf("%s, with fold: %d and not %d", c.name, got, c.folding)
		}
	}
}

// greatAndSmall are words of so many beginnings that have bytes, if those that differ by fold alone are one; else there are more.
func greatAndSmall(nodes int) []string {
	return append(apart(nodes-40, 32), strings.Repeat("q", 20), strings.Repeat("r", 20), strings.Repeat("Q", 20), strings.Repeat("R", 20))
}

func TestNilIsEmpty(t *testing.T) {
	for _, fold := range both {
		for _, none := range [][][]byte{nil, {}} {
			if got := patset.Check(fold, none...); got != api.ErrNone {
				t.Errorf("no words: %d", got)
			}
			if s, e := patset.Make(fold, none...); s.Fold || len(s.Words) != 0 || e != api.ErrNone {
				t.Errorf("no words: %v, %d", s, e)
			}
			if got := patset.Nodes(fold, none...); got != 1 {
				t.Errorf("no words: %d nodes", got)
			}
			s := api.Set{Fold: fold, Words: none}
			if patset.Right(s) || patset.Longest(s) != 0 {
				t.Errorf("no words: right %t, the longest %d", patset.Right(s), patset.Longest(s))
			}
			for _, word := range [][]byte{nil, {}, []byte("he")} {
				if n, known := patset.Number(s, word); n != 0 || known {
					t.Errorf("%v among no words: %d, %t", word, n, known)
				}
			}
			if own := patset.Own(s); own.Fold != fold || len(own.Words) != 0 {
				t.Errorf("no words: of its own %v", own)
			}
			if !patset.Same(s, api.Set{Fold: fold}) || patset.Same(s, api.Set{Fold: fold, Words: [][]byte{nil}}) {
				t.Error("no words: not the same, or the same as a nil word")
			}
		}
		for _, word := range [][]byte{nil, {}} {
			if got := patset.Check(fold, word); got != api.ErrEmpty {
				t.Errorf("%v: %d", word, got)
			}
			if s, e := patset.Make(fold, []byte("he"), word); s.Fold || len(s.Words) != 0 || e != api.ErrEmpty {
				t.Errorf("he, %v: %v, %d", word, s, e)
			}
			if got := patset.Nodes(fold, word, word); got != 1 {
				t.Errorf("%v: %d nodes", word, got)
			}
			s := api.Set{Fold: fold, Words: [][]byte{[]byte("he"), word}}
			for _, other := range [][]byte{nil, {}} {
				if n, known := patset.Number(s, other); n != 1 || !known {
					t.Errorf("%v in he, %v: %d, %t", other, word, n, known)
				}
			}
			if patset.Right(s) || patset.Longest(s) != 2 || !patset.Same(s, patset.Own(s)) {
				t.Errorf("he, %v: right %t, the longest %d, of its own %v", word, patset.Right(s), patset.Longest(s), patset.Own(s))
			}
		}
	}
}

// TestFirstErrorIsTold: of lists for which any of the errors are so, in either order of the words (P5.1).
func TestFirstErrorIsTold(t *testing.T) {
	for which := range uint(1 << len(faults)) {
		words, want := []string{"he"}, api.OK
		if which != 0 {
			want = faults[bits.TrailingZeros(which)].e
		}
		for k, f := range faults {
			if which&(1<<k) != 0 {
				words = append(words, f.words...)
			}
		}
		for range 2 {
			for _, fold := range both {
				if got := patset.Check(fold, ofStrings(words)...); got != want {
					t.Errorf("the faults %05b, fold %t, %s ahead: %d and not %d", which, fold, short(words), got, want)
				}
				s, e := patset.Make(fold, ofStrings(words)...)
				if e != want || e != api.OK && (s.Fold || len(s.Words) != 0) {
					t.Errorf("the faults %05b, fold %t: %v, %d and not %d", which, fold, s, e, want)
				}
				if got := patset.Right(api.Set{Fold: fold, Words: ofStrings(words)}); got != (e == api.OK) {
					t.Errorf("the faults %05b, fold %t: right %t", which, fold, got)
				}
			}
			slices.Reverse(words)
		}
	}
}

func TestCheckGoesByTheWords(t *testing.T) {
	for _, words := range all() {
		for _, fold := range both {
			if got, want := patset.Check(fold, ofStrings(words)...), faultByWords(fold, words); got != want {
				t.Errorf("%s, fold %t: %d and not %d", short(words), fold, got, want)
			}
		}
	}
}

func TestNodesByHand(t *testing.T) {
	for _, c := range []struct {
		words          []string
		plain, folding int
	}{
		{nil, 1, 1},
		{[]string{""}, 1, 1},
		{[]string{"", "", ""}, 1, 1},
		{[]string{"a"}, 2, 2},
		{[]string{"", "a"}, 2, 2},
		{[]string{"a", "a"}, 2, 2},
		{[]string{"a", "A"}, 3, 2},
		{[]string{"he", "she", "her"}, 7, 7},
		{[]string{"he", "she", "He", "her"}, 9, 7},
		{[]string{"a", "ab", "abc"}, 4, 4},
		{[]string{"abc", "ab", "a"}, 4, 4},
		{[]string{"ab", "ba"}, 5, 5},
		{[]string{"aab", "ab", "bab"}, 8, 8},
		{[]string{"abX", "abx", "ABy"}, 8, 5},
		{[]string{"@", "`", "[", "{"}, 5, 5},
		{[]string{"\xc1", "\xe1"}, 3, 3},
		{[]string{"\x00", "\x00\x00", ""}, 3, 3},
		{[]string{strings.Repeat("x", 1000)}, 1001, 1001},
		{[]string{strings.Repeat("x", 1000), strings.Repeat("X", 1000)}, 2001, 1001},
		{slices.Repeat([]string{"he"}, 1000), 3, 3},
	} {
		if got := patset.Nodes(false, ofStrings(c.words)...); got != c.plain {
			t.Errorf("%s, without fold: %d and not %d", short(c.words), got, c.plain)
		}
		if got := patset.Nodes(true, ofStrings(c.words)...); got != c.folding {
			t.Errorf("%s, with fold: %d and not %d", short(c.words), got, c.folding)
		}
	}
}

func TestNodesGoByTheWords(t *testing.T) {
	for _, words := range all() {
		for _, fold := range both {
			if got, want := patset.Nodes(fold, ofStrings(words)...), nodesByWords(fold, words); got != want {
				t.Errorf("%s, fold %t: %d and not %d", short(words), fold, got, want)
			}
		}
	}
}

// TestGreatLists: what is far above all limits is answered too, and a long word does not take its square.
func TestGreatLists(t *testing.T) {
	long := bytes.Repeat([]byte("ushers"), 1<<16)
	if got := patset.Nodes(true, long, bytes.ToUpper(long), long[:1000]); got != len(long)+1 {
		t.Errorf("one long word: %d nodes", got)
	}
	if got := patset.Check(true, long); got != api.ErrLong {
		t.Errorf("one long word: %d", got)
	}
	many := slices.Repeat([][]byte{[]byte("he"), long[:3]}, 1<<16)
	if got := patset.Nodes(false, many...); got != 6 {
		t.Errorf("many words: %d nodes", got)
	}
	s := api.Set{Words: append(many, long)}
	if n, known := patset.Number(s, long); n != len(many) || !known || patset.Longest(s) != len(long) || patset.Right(s) {
		t.Errorf("many words: %d, %t; the longest %d; right %t", n, known, patset.Longest(s), patset.Right(s))
	}
	if own := patset.Own(s); !patset.Same(own, s) {
		t.Error("many words: of their own others")
	}
}

func TestMakeByHand(t *testing.T) {
	for _, c := range []struct {
		fold        bool
		words, want []string
	}{
		{true, []string{"he", "she", "He", "her"}, []string{"he", "she", "her"}},
		{false, []string{"he", "she", "He", "her"}, []string{"he", "she", "He", "her"}},
		{true, []string{"HE", "she", "he"}, []string{"he", "she"}},
		{true, []string{"B", "a", "b", "A"}, []string{"b", "a"}},
		{false, []string{"b", "a", "b", "a"}, []string{"b", "a"}},
		{false, []string{"abc", "ab", "a"}, []string{"abc", "ab", "a"}},
		{true, []string{"@[Z`{"}, []string{"@[z`{"}},
		{true, []string{"\xc1", "\xe1"}, []string{"\xc1", "\xe1"}},
		{true, slices.Repeat([]string{"Q", "q"}, 32), []string{"q"}},
		{false, slices.Repeat([]string{"Q", "q"}, 32), []string{"Q", "q"}},
		{true, of600(), []string{a32, a32[:24]}},
	} {
		s, e := patset.Make(c.fold, ofStrings(c.words)...)
		if s.Fold != c.fold || !slices.Equal(toStrings(s.Words), c.want) || e != api.OK {
			t.Errorf("%s, fold %t: %t, %q, %d and not %q", short(c.words), c.fold, s.Fold, toStrings(s.Words), e, c.want)
		}
	}
}

func TestMakeGoesByTheWords(t *testing.T) {
	for _, words := range all() {
		for _, fold := range both {
			s, e := patset.Make(fold, ofStrings(words)...)
			want, wantE := setByWords(fold, words)
			if s.Fold != (fold && wantE == api.OK) || !slices.Equal(toStrings(s.Words), want) || e != wantE {
				t.Errorf("%s, fold %t: %t, %q, %d and not %q, %d", short(words), fold, s.Fold, toStrings(s.Words), e, want, wantE)
			}
		}
	}
}

// TestWhatIsMadeMayBe: it is its own set, and each word of the list has its number in it (P5.4).
func TestWhatIsMadeMayBe(t *testing.T) {
	for _, words := range all() {
		for _, fold := range both {
			s, e := patset.Make(fold, ofStrings(words)...)
			if e != api.OK {
				continue
			}
			again, e := patset.Make(s.Fold, s.Words...)
			if !patset.Right(s) || !patset.Same(again, s) || e != api.OK {
				t.Errorf("%s, fold %t: right %t, made again %q, %d", short(words), fold, patset.Right(s), toStrings(again.Words), e)
			}
			for _, w := range words {
				n, known := patset.Number(s, []byte(w))
				if !known || string(s.Words[n]) != toldByWords(fold, w) {
					t.Errorf("%s, fold %t: the number of %q is %d, %t", short(words), fold, w, n, known)
				}
			}
		}
	}
}

// TestLaterOnesThatAreTheSame: their order makes no difference (P5.4).
func TestLaterOnesThatAreTheSame(t *testing.T) {
	want := []string{"he", "she", "her"}
	later := []string{"He", "sHE", "HER", "he"}
	for i := range later {
		for j := range later {
			words := slices.Concat(want, later[i:], later[:i], []string{later[j]})
			if s, e := patset.Make(true, ofStrings(words)...); !slices.Equal(toStrings(s.Words), want) || e != api.OK {
				t.Errorf("%q: %q, %d", words, toStrings(s.Words), e)
			}
		}
	}
}

func TestRightByHand(t *testing.T) {
	for _, c := range []struct {
		words          []string
		plain, folding bool
	}{
		{[]string{"he"}, true, true},
		{[]string{"he", "she", "her"}, true, true},
		{[]string{"her", "he", "h"}, true, true},
		{[]string{"@[`{", "\xc1", "\xe1"}, true, true},
		{[]string{"he", "he"}, false, false},
		{[]string{"he", "she", "her", "he"}, false, false},
		{[]string{"He"}, true, false},
		{[]string{"he", "she", "hE"}, true, false},
		{[]string{"HE", "he"}, true, false},
		{[]string{"HE", "she"}, true, false},
		{[]string{"he", "Z"}, true, false},
		{nil, false, false},
		{[]string{""}, false, false},
		{[]string{"he", ""}, false, false},
		{singles(64), true, true},
		{singles(65), false, false},
		{[]string{a32}, true, true},
		{[]string{a32 + "a"}, false, false},
		{apart(399, 32), true, true},
		{apart(400, 32), false, false},
		{apart(601, 32), false, false},
		{just(600), true, true},
		{just(601), false, false},
	} {
		if got := patset.Right(api.Set{Words: ofStrings(c.words)}); got != c.plain {
			t.Errorf("%s, without fold: %t", short(c.words), got)
		}
		if got := patset.Right(api.Set{Fold: true, Words: ofStrings(c.words)}); got != c.folding {
			t.Errorf("%s, with fold: %t", short(c.words), got)
		}
	}
}

// just are so many bytes in words no two of which are the same, of fewer nodes than may be.
func just(together int) []string {
	var l []string
	for together > 0 {
		n := min(together, 25)
		l = append(l, strings.Repeat("x", n-1)+string([]byte{byte(128 + len(l))}))
		together -= n
	}
	return l
}

func TestRightGoesByTheWords(t *testing.T) {
	for _, words := range all() {
		for _, fold := range both {
			made, e := setByWords(fold, words)
			want := e == api.OK && slices.Equal(made, words)
			if got := patset.Right(api.Set{Fold: fold, Words: ofStrings(words)}); got != want {
				t.Errorf("%s, fold %t: %t", short(words), fold, got)
			}
		}
	}
}

func TestNumberByHand(t *testing.T) {
	for _, c := range []struct {
		words          []string
		word           string
		plain, folding int // -1: none is the same
	}{
		{[]string{"he", "she", "her"}, "he", 0, 0},
		{[]string{"he", "she", "her"}, "she", 1, 1},
		{[]string{"he", "she", "her"}, "her", 2, 2},
		{[]string{"he", "she", "her"}, "HER", -1, 2},
		{[]string{"he", "she", "her"}, "h", -1, -1},
		{[]string{"he", "she", "her"}, "hers", -1, -1},
		{[]string{"he", "she", "her"}, "", -1, -1},
		{[]string{"He", "he", "HE"}, "he", 1, 0},
		{[]string{"He", "he", "HE"}, "HE", 2, 0},
		{[]string{"x", "He", "he"}, "hE", -1, 1},
		{[]string{"he", "he", "he"}, "he", 0, 0},
		{[]string{"", "he", ""}, "", 0, 0},
		{[]string{"he", ""}, "", 1, 1},
		{[]string{"@", "`"}, "`", 1, 1},
		{[]string{"\xc1"}, "\xe1", -1, -1},
		{nil, "he", -1, -1},
		{nil, "", -1, -1},
		{[]string{strings.Repeat("x", 100)}, strings.Repeat("X", 100), -1, 0},
		{append(singles(100), "he"), "he", 100, 100},
	} {
		for _, fold := range both {
			want := c.plain
			if fold {
				want = c.folding
			}
			n, known := patset.Number(api.Set{Fold: fold, Words: ofStrings(c.words)}, []byte(c.word))
			if n != max(want, 0) || known != (want >= 0) {
				t.Errorf("%q in %s, fold %t: %d, %t and not %d", c.word, short(c.words), fold, n, known, want)
			}
		}
	}
}

func TestNumberGoesByTheWords(t *testing.T) {
	for _, words := range small() {
		for _, fold := range both {
			for _, word := range []string{"", "a", "A", "b", "ab", "Ab", "aB", "AB", "ba", "aa", "abb"} {
				same := func(w string) bool { return toldByWords(fold, w) == toldByWords(fold, word) }
				want := slices.IndexFunc(words, same)
				n, known := patset.Number(api.Set{Fold: fold, Words: ofStrings(words)}, []byte(word))
				if n != max(want, 0) || known != (want >= 0) {
					t.Errorf("%q in %q, fold %t: %d, %t and not %d", word, words, fold, n, known, want)
				}
			}
		}
	}
}

func TestLongest(t *testing.T) {
	for _, c := range []struct {
		words []string
		want  int
	}{
		{nil, 0},
		{[]string{""}, 0},
		{[]string{"", "", ""}, 0},
		{[]string{"a"}, 1},
		{[]string{"he", "she", "he"}, 3},
		{[]string{"she", "he", ""}, 3},
		{[]string{"", "he", "ushers"}, 6},
		{[]string{a32, "he"}, 32},
		{[]string{"he", strings.Repeat("x", 1000), a32 + "a"}, 1000},
		{append(singles(100), "he"), 2},
	} {
		for _, fold := range both {
			if got := patset.Longest(api.Set{Fold: fold, Words: ofStrings(c.words)}); got != c.want {
				t.Errorf("%s, fold %t: %d and not %d", short(c.words), fold, got, c.want)
			}
		}
	}
}

func TestSameByHand(t *testing.T) {
	for _, c := range []struct {
		a, b []string
		want bool
	}{
		{nil, nil, true},
		{nil, []string{""}, false},
		{[]string{""}, []string{""}, true},
		{[]string{""}, []string{"", ""}, false},
		{[]string{"he"}, []string{"he"}, true},
		{[]string{"he"}, []string{"He"}, false},
		{[]string{"he"}, []string{"hf"}, false},
		{[]string{"he"}, []string{"h"}, false},
		{[]string{"he"}, []string{"her"}, false},
		{[]string{"he"}, nil, false},
		{[]string{"he"}, []string{"he", "he"}, false},
		{[]string{"he", "she"}, []string{"he", "she"}, true},
		{[]string{"he", "she"}, []string{"she", "he"}, false},
		{[]string{"he", "she"}, []string{"he", "she", ""}, false},
		{[]string{"he", "she", "her"}, []string{"he", "she", "hex"}, false},
		{[]string{"h", "eshe"}, []string{"he", "she"}, false},
		{singles(100), singles(100), true},
	} {
		for _, aFold := range both {
			for _, bFold := range both {
				a, b := api.Set{Fold: aFold, Words: ofStrings(c.a)}, api.Set{Fold: bFold, Words: ofStrings(c.b)}
				want := c.want && aFold == bFold
				if patset.Same(a, b) != want || patset.Same(b, a) != want {
					t.Errorf("%s, fold %t, and %s, fold %t: %t, %t", short(c.a), aFold, short(c.b), bFold, patset.Same(a, b), patset.Same(b, a))
				}
			}
		}
	}
}

func TestSameGoesByTheWords(t *testing.T) {
	lists := append(small()[:200], ordinary()...)
	for _, a := range lists {
		for _, b := range lists {
			x, y := api.Set{Words: ofStrings(a)}, api.Set{Words: ofStrings(b)}
			if got := patset.Same(x, y); got != slices.Equal(a, b) {
				t.Fatalf("%q and %q: %t", a, b, got)
			}
		}
	}
}

func TestOwn(t *testing.T) {
	for _, words := range all() {
		for _, fold := range both {
			s := api.Set{Fold: fold, Words: ofStrings(words)}
			own := patset.Own(s)
			if own.Fold != fold || !slices.Equal(toStrings(own.Words), words) || !patset.Same(own, s) {
				t.Errorf("%s, fold %t: %t, %s", short(words), fold, own.Fold, short(toStrings(own.Words)))
			}
		}
	}
}

// spoil changes all the memory of a set, spare room included.
func spoil(s api.Set) {
	for _, w := range s.Words {
		w = w[:cap(w)]
		for i := range w {
			w[i] = '!'
		}
	}
	clear(s.Words[:cap(s.Words)])
}

// TestMemory: what is handed in stays as it is, spare room included, whatever is done with what is told (R4).
func TestMemory(t *testing.T) {
	room := []byte("heshHErhers-spare")
	list := [][]byte{room[:2], room[2:7], room[4:6], room[7:11], []byte("spare")}
	before := toStrings(list)
	kept := func(what string) {
		t.Helper()
		if string(room) != "heshHErhers-spare" || !slices.Equal(toStrings(list), before) {
			t.Fatalf("%s: what was handed in is now %q, of %q", what, toStrings(list), room)
		}
	}
	for _, fold := range both {
		words := list[:4]
		s := api.Set{Fold: fold, Words: words}
		patset.Check(fold, words...)
		patset.Nodes(fold, words...)
		patset.Right(s)
		patset.Number(s, room[4:6])
		patset.Longest(s)
		patset.Same(s, api.Set{Fold: fold, Words: list[1:3]})
		kept("asked")

		made, _ := patset.Make(fold, words...)
		again, _ := patset.Make(fold, words...)
		want := toStrings(again.Words)
		spoil(made)
		kept("made")
		if !slices.Equal(toStrings(again.Words), want) {
			t.Errorf("made, fold %t: spoilt with another one: %q", fold, toStrings(again.Words))
		}

		own, other := patset.Own(s), patset.Own(s)
		spoil(own)
		kept("of its own")
		if !patset.Same(other, s) {
			t.Errorf("of its own, fold %t: spoilt with another one: %q", fold, toStrings(other.Words))
		}
	}
}

// TestWordsAreApart: no two words of an answer share memory, and none is what is handed in later.
func TestWordsAreApart(t *testing.T) {
	words := []string{"he", "she", "He", "her", "s"}
	for _, fold := range both {
		handed := ofStrings(words)
		made, _ := patset.Make(fold, handed...)
		own := patset.Own(api.Set{Fold: fold, Words: handed})
		wantMade, _ := setByWords(fold, words)
		for _, w := range handed {
			copy(w, "??????")
		}
		clear(handed)
		for i, c := range []struct {
			s    api.Set
			want []string
		}{{made, wantMade}, {own, words}} {
			if !slices.Equal(toStrings(c.s.Words), c.want) {
				t.Errorf("%d, fold %t: changed with what was handed in: %q", i, fold, toStrings(c.s.Words))
			}
			for k, w := range c.s.Words {
				w = w[:cap(w)]
				for j := range w {
					w[j] = '!'
				}
				if !slices.Equal(toStrings(c.s.Words[k+1:]), c.want[k+1:]) {
					t.Fatalf("%d, fold %t: changed with word %d: %q", i, fold, k, toStrings(c.s.Words))
				}
			}
		}
	}
}

// toldByWords tells a word as the set of its list has it, by the chapters' words.
func toldByWords(fold bool, w string) string {
	b := []byte(w)
	for i, c := range b {
		if fold && c >= 65 && c <= 90 {
			b[i] = c + 32
		}
	}
	return string(b)
}

// nodesByWords counts beginnings by the chapter's words: all bytes of each, and the empty one.
func nodesByWords(fold bool, words []string) int {
	came := map[string]bool{"": true}
	for _, w := range words {
		for k := range len(w) + 1 {
			came[toldByWords(fold, w[:k])] = true
		}
	}
	return len(came)
}

// faultByWords tells a list's first error by the chapter's table.
func faultByWords(fold bool, words []string) api.Errno {
	together, empty, long := 0, false, false
	for _, w := range words {
		together += len(w)
		empty = empty || len(w) == 0
		long = long || len(w) > 32
	}
	for _, row := range []struct {
		so bool
		e  api.Errno
	}{
		{len(words) == 0, 50},
		{len(words) > 64, 51},
		{empty, 52},
		{long, 53},
		{together > 600, 54},
		{nodesByWords(fold, words) > 400, 55},
	} {
		if row.so {
			return row.e
		}
	}
	return 0
}

// setByWords tells the words of a list's set by the chapter's words.
func setByWords(fold bool, words []string) ([]string, api.Errno) {
	if e := faultByWords(fold, words); e != api.OK {
		return nil, e
	}
	var l []string
	for _, w := range words {
		if w = toldByWords(fold, w); !slices.Contains(l, w) {
			l = append(l, w)
		}
	}
	return l, api.OK
}

func ofStrings(l []string) [][]byte {
	var words [][]byte
	for _, w := range l {
		words = append(words, []byte(w))
	}
	return words
}

func toStrings(words [][]byte) []string {
	var l []string
	for _, w := range words {
		l = append(l, string(w))
	}
	return l
}

// short tells of a list what a message has room for.
func short(words []string) string {
	return fmt.Sprintf("%d words %.40q", len(words), words[:min(4, len(words))])
}
