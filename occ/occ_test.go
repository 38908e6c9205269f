package occ_test

import (
	"math"
	"slices"
	"strings"
	"testing"

	"teasel/api"
	"teasel/occ"
	"teasel/patset"
)

// ends are numbers around the places of a text that may stand there, and some far from all.
func ends(from, length int) []int {
	l := []int{math.MinInt, math.MinInt + 1, math.MinInt + 2, -from, -1, 0, 1, length, api.MaxFrom, math.MaxInt - 1, math.MaxInt}
	for end := from - 3; end <= from+length+3; end++ {
		l = append(l, end)
	}
	return l
}

func TestOccByHand(t *testing.T) {
	he := []string{"he", "she", "her"}
	for _, c := range []struct {
		from           int
		text           string
		words          []string
		plain, folding []api.Hit
	}{
		{10, "usher", he, hits(14, 1, 14, 0, 15, 2), hits(14, 1, 14, 0, 15, 2)},
		{0, "ushers", he, hits(4, 1, 4, 0, 5, 2), hits(4, 1, 4, 0, 5, 2)},
		{0, "UsHeRs", he, nil, hits(4, 1, 4, 0, 5, 2)},
		{0, "uSHers", he, nil, hits(4, 1, 4, 0, 5, 2)},
		{0, "uShers", he, hits(4, 0, 5, 2), hits(4, 1, 4, 0, 5, 2)},
		{0, "he", he, hits(2, 0), hits(2, 0)},
		{7, "he", he, hits(9, 0), hits(9, 0)},
		{0, "hehe", he, hits(2, 0, 4, 0), hits(2, 0, 4, 0)},
		{0, "h", he, nil, nil},
		{0, "e", he, nil, nil},
		{0, "h e s he", he, hits(8, 0), hits(8, 0)},
		{0, "", he, nil, nil},
		{5, "", he, nil, nil},
		{0, "aaaa", []string{"aa"}, hits(2, 0, 3, 0, 4, 0), hits(2, 0, 3, 0, 4, 0)},
		{1, "ababa", []string{"aba"}, hits(4, 0, 6, 0), hits(4, 0, 6, 0)},
		{0, "abc", []string{"c", "abc", "bc"}, hits(3, 1, 3, 2, 3, 0), hits(3, 1, 3, 2, 3, 0)},
		{0, "abc", []string{"abc", "bc", "c"}, hits(3, 0, 3, 1, 3, 2), hits(3, 0, 3, 1, 3, 2)},
		{0, "@[`{", []string{"`{"}, hits(4, 0), hits(4, 0)},
		{0, "\xc1\xe1", []string{"\xe1"}, hits(2, 0), hits(2, 0)},
		{0, "x\x00y", []string{"\x00"}, hits(2, 0), hits(2, 0)},
		{api.MaxFrom, "she", he, hits(1<<62+3, 1, 1<<62+3, 0), hits(1<<62+3, 1, 1<<62+3, 0)},
	} {
		for fold, want := range map[bool][]api.Hit{false: c.plain, true: c.folding} {
			l := list{fold, c.words}
			got, e := occ.Occ(l.set(), c.from, []byte(c.text))
			if !slices.Equal(got, want) || e != api.OK {
				t.Errorf("%s, in %q from %d: %v, %d and not %v", l, c.text, c.from, got, e, want)
			}
		}
	}
}

// TestOccGoesByTheWords: all hits, each once, rising, no other one; where the text stands makes no difference.
func TestOccGoesByTheWords(t *testing.T) {
	for _, l := range append(small(), ordinary()...) {
		s, froms := l.set(), []int{0, 1, 10, api.MaxNumber, api.MaxFrom - 1, api.MaxFrom}
		for i, text := range texts("aAb", 0, 5) {
			checkOcc(t, l, s, froms[i%len(froms)], text)
		}
	}
}

func TestOccOfGreatSets(t *testing.T) {
	for _, l := range greatest() {
		all := strings.Join(l.words, "")
		for _, text := range []string{"", "x", all, all[1:], strings.ToUpper(all), strings.Repeat("x", 70)} {
			checkOcc(t, l, l.set(), 3, text)
		}
	}
}

func TestOccOfOtherTexts(t *testing.T) {
	for _, l := range ordinary() {
		for _, text := range []string{
			"ushers", "UsHeRs", "she, he and her", "SHEHESHERHERHE", "hehehehe", "ssshhheee", "abababababab", "@`[{\xc1\xe1\xff\x00\x00",
		} {
			checkOcc(t, l, l.set(), 1000, text)
		}
	}
}

// checkOcc holds what Occ tells against the chapter's words.
func checkOcc(t *testing.T, l list, s api.Set, from int, text string) {
	t.Helper()
	want := occByWords(l, from, text)
	got, e := occ.Occ(s, from, []byte(text))
	if !slices.Equal(got, want) || e != api.OK {
		t.Fatalf("%s, in %q from %d: %v, %d and not %v", l, text, from, got, e, want)
	}
	if !occ.Rise(s, got...) {
		t.Fatalf("%s, in %q from %d: %v does not rise", l, text, from, got)
	}
}

func TestOccOfNothing(t *testing.T) {
	for _, l := range slices.Concat(ordinary(), greatest()) {
		for _, from := range []int{0, 7, api.MaxFrom} {
			for _, text := range [][]byte{nil, {}} {
				if got, e := occ.Occ(l.set(), from, text); len(got) != 0 || e != api.OK {
					t.Errorf("%s, in %v from %d: %v, %d", l, text, from, got, e)
				}
			}
		}
	}
}

// TestOccOfAGreatText: what is far longer than any word is answered too.
func TestOccOfAGreatText(t *testing.T) {
	const length = 1 << 15
	text := []byte(strings.Repeat("a", length))
	s := list{true, []string{"a", strings.Repeat("a", 32), "b"}}.set()
	got, e := occ.Occ(s, 5, text)
	if want := length + length - 31; len(got) != want || e != api.OK || !occ.Rise(s, got...) {
		t.Fatalf("%d hits, %d and not %d", len(got), e, want)
	}
	if last := hit(5+length, 0); got[len(got)-1] != last {
		t.Errorf("the last one is %v", got[len(got)-1])
	}
}

// TestWrongSets: of a set that may not be nothing is told, and nothing stands.
func TestWrongSets(t *testing.T) {
	for _, l := range wrong() {
		for _, text := range []string{"", "x", "she HE her", strings.Join(l.words, "")} {
			for _, from := range []int{0, 3, api.MaxFrom, -1, api.MaxFrom + 1} {
				checkNone(t, l, from, text)
			}
		}
	}
}

func TestFrom(t *testing.T) {
	l := list{false, []string{"he", "she"}}
	for _, from := range []int{math.MinInt, math.MinInt + 1, -api.MaxFrom, -api.MaxNumber, -2, -1, api.MaxFrom + 1, api.MaxFrom + 2, math.MaxInt - 1, math.MaxInt} {
		for _, text := range []string{"", "he", "ushe"} {
			checkNone(t, l, from, text)
		}
	}
	for _, from := range []int{0, 1, 2, api.MaxNumber, api.MaxNumber + 1, api.MaxFrom - 1, api.MaxFrom} {
		want := hits(from+4, 1, from+4, 0)
		if got, e := occ.Occ(l.set(), from, []byte("ushe")); !slices.Equal(got, want) || e != api.OK {
			t.Errorf("from %d: %v, %d and not %v", from, got, e, want)
		}
		if !occ.Stands(l.set(), from, []byte("ushe"), want[0]) || !occ.Stands(l.set(), from, []byte("ushe"), want[1]) {
			t.Errorf("from %d: %v do not stand", from, want)
		}
	}
}

// checkNone holds that Occ tells ErrArg and nothing else, and that nothing stands.
func checkNone(t *testing.T, l list, from int, text string) {
	t.Helper()
	if got, e := occ.Occ(l.set(), from, []byte(text)); len(got) != 0 || e != api.ErrArg {
		t.Errorf("%s, in %q from %d: %v, %d", l, text, from, got, e)
	}
	for end := -1; end <= len(text)+1; end++ {
		for word := -1; word <= min(3, len(l.words)); word++ {
			for _, h := range hits(from+end, word, end, word) {
				if occ.Stands(l.set(), from, []byte(text), h) {
					t.Errorf("%s, in %q from %d: %v stands", l, text, from, h)
				}
			}
		}
	}
}

func TestStandsByHand(t *testing.T) {
	for _, c := range []struct {
		from           int
		text           string
		h              api.Hit
		plain, folding bool
	}{
		{10, "usher", hit(14, 1), true, true},
		{10, "usher", hit(14, 0), true, true},
		{10, "usher", hit(15, 2), true, true},
		{10, "usHer", hit(15, 2), false, true},
		{10, "usher", hit(14, 2), false, false},
		{10, "usher", hit(15, 0), false, false},
		{10, "usher", hit(13, 1), false, false},
		{10, "usher", hit(4, 1), false, false},
		{10, "usher", hit(14, -1), false, false},
		{10, "usher", hit(14, 3), false, false},
		{10, "usher", hit(14, math.MinInt), false, false},
		{10, "usher", hit(14, math.MaxInt), false, false},
		{10, "usher", hit(9, 0), false, false},
		{10, "usher", hit(10, 0), false, false},
		{10, "usher", hit(16, 2), false, false},
		{10, "he", hit(12, 0), true, true},
		{10, "he", hit(12, 1), false, false},
		{10, "e", hit(11, 0), false, false},
		{0, "", hit(0, 0), false, false},
		{0, "he", hit(2, 0), true, true},
		{0, "he", hit(math.MinInt, 0), false, false},
		{0, "he", hit(math.MaxInt, 0), false, false},
		{api.MaxFrom, "HE", hit(api.MaxFrom+2, 0), false, true},
	} {
		for fold, want := range map[bool]bool{false: c.plain, true: c.folding} {
			s := list{fold, []string{"he", "she", "her"}}.set()
			if got := occ.Stands(s, c.from, []byte(c.text), c.h); got != want {
				t.Errorf("%v in %q from %d, fold %t: %t", c.h, c.text, c.from, fold, got)
			}
		}
	}
	for _, room := range []string{"he", "hers"} {
		if text := []byte(room); occ.Stands(list{false, []string{"he"}}.set(), 0, text[:1], hit(2, 0)) {
			t.Errorf("a word stands in the room behind the text, %q", room)
		}
	}
}

// TestStandsGoesByTheWords: a hit stands if the chapter's words say so, and if Occ tells it.
func TestStandsGoesByTheWords(t *testing.T) {
	for _, l := range append(ordinary(), list{false, []string{"a"}}, list{true, []string{"ab", "b"}}) {
		s := l.set()
		for _, from := range []int{0, 2, api.MaxFrom} {
			for _, text := range append(texts("aAb", 0, 3), "", "usher", "SHEHER", "aabaab", "\xff\x00") {
				told, _ := occ.Occ(s, from, []byte(text))
				for _, end := range ends(from, len(text)) {
					for _, word := range append([]int{math.MinInt, math.MaxInt}, between(-2, len(l.words)+1)...) {
						h := hit(end, word)
						got, want := occ.Stands(s, from, []byte(text), h), standsByWords(l, from, text, h)
						if got != want || got != slices.Contains(told, h) {
							t.Fatalf("%s, %v in %q from %d: %t and not %t; told %v", l, h, text, from, got, want, told)
						}
					}
				}
			}
		}
	}
}

// between are the numbers from low to high.
func between(low, high int) []int {
	var l []int
	for n := low; n <= high; n++ {
		l = append(l, n)
	}
	return l
}

// TestFarAheadMakesNoDifference: hits that end above a place hang on the longest word's length less 1 ahead of it alone (P6.4).
func TestFarAheadMakesNoDifference(t *testing.T) {
	for _, l := range ordinary() {
		s := l.set()
		warm := patset.Longest(s) - 1
		for _, text := range append(texts("aAb", 5, 5), "ushers", "SHESHERHE", "aababbaabb", "x\xff\x00@`[{") {
			for _, from := range []int{0, 10, api.MaxFrom - 10} {
				all, _ := occ.Occ(s, from, []byte(text))
				for place := range len(text) + 1 {
					begin := max(0, place-warm)
					part, e := occ.Occ(s, from+begin, []byte(text[begin:]))
					other, f := occ.Occ(s, from, []byte(strings.Repeat("a", begin)+text[begin:]))
					want := occ.Between(from+place, math.MaxInt, all...)
					for _, some := range [][]api.Hit{part, other} {
						if got := occ.Between(from+place, math.MaxInt, some...); !occ.Same(got, want) || e != api.OK || f != api.OK {
							t.Fatalf("%s, in %q from %d, above %d: %v, %d, %d and not %v", l, text, from, place, got, e, f, want)
						}
					}
				}
			}
		}
	}
}

// spoil changes all the memory of a list, spare room included.
func spoil(l []api.Hit) {
	l = l[:cap(l)]
	for i := range l {
		l[i] = hit(-7, -7)
	}
}

// TestMemoryOfOcc: the set and the text stay as they are, and each answer has memory of its own (R4).
func TestMemoryOfOcc(t *testing.T) {
	room, wordRoom := []byte("uSHers-spare"), []byte("hesheher-spare")
	text, words := room[:6], [][]byte{wordRoom[:2], wordRoom[2:5], wordRoom[5:8], []byte("spare")}
	for _, fold := range []bool{false, true} {
		s := api.Set{Fold: fold, Words: words[:3]}
		want := occByWords(list{fold, []string{"he", "she", "her"}}, 0, "uSHers")
		first, _ := occ.Occ(s, 0, text)
		other, _ := occ.Occ(s, 0, text)
		occ.Stands(s, 0, text, hit(4, 1))
		occ.Less(s, hit(4, 1), hit(4, 0))
		spoil(first)
		if !slices.Equal(other, want) {
			t.Errorf("fold %t: spoilt with another one: %v", fold, other)
		}
		if string(room) != "uSHers-spare" || string(wordRoom) != "hesheher-spare" || string(words[3]) != "spare" {
			t.Errorf("what was handed in is now %q, %q, %q", room, wordRoom, words[3])
		}
		again, _ := occ.Occ(s, 0, text)
		clear(text)
		if !slices.Equal(again, want) {
			t.Errorf("fold %t: changed with the text: %v", fold, again)
		}
		copy(text, "uSHers")
	}
}
