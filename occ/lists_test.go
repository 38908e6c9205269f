package occ_test

import (
	"math"
	"slices"
	"strings"
	"testing"

	"teasel/api"
	"teasel/occ"
)

func TestLessByHand(t *testing.T) {
	s := list{false, []string{"he", "she", "her", "us"}}.set()
	for _, c := range []struct {
		what         string
		ahead, other api.Hit
	}{
		{"a lesser End", hit(3, 0), hit(4, 0)},
		{"a lesser End, of the shorter word", hit(3, 0), hit(4, 1)},
		{"a lesser End, of the greater Word", hit(3, 2), hit(4, 1)},
		{"Ends below 0", hit(-4, 0), hit(-3, 1)},
		{"the longer word", hit(4, 1), hit(4, 0)},
		{"the longer word, of the lesser Word", hit(4, 1), hit(4, 3)},
		{"the lesser Word", hit(4, 1), hit(4, 2)},
		{"the lesser Word, of shorter ones", hit(4, 0), hit(4, 3)},
		{"a word, and none behind the words", hit(4, 0), hit(4, 4)},
		{"a word, and none ahead of them", hit(4, 3), hit(4, -1)},
		{"none at a lesser End", hit(3, -1), hit(4, 1)},
		{"none twice", hit(4, -1), hit(4, 4)},
		{"none twice, ahead", hit(4, math.MinInt), hit(4, -1)},
		{"none twice, behind", hit(4, 4), hit(4, math.MaxInt)},
		{"Ends far apart", hit(math.MinInt, 0), hit(math.MaxInt, 0)},
		{"Words far apart", hit(4, math.MinInt), hit(4, math.MaxInt)},
	} {
		if !occ.Less(s, c.ahead, c.other) {
			t.Errorf("%s: %v does not come ahead of %v", c.what, c.ahead, c.other)
		}
		if occ.Less(s, c.other, c.ahead) {
			t.Errorf("%s: %v comes ahead of %v", c.what, c.other, c.ahead)
		}
		if occ.Less(s, c.ahead, c.ahead) || occ.Less(s, c.other, c.other) {
			t.Errorf("%s: a hit comes ahead of itself", c.what)
		}
	}
}

// anyHits are hits of each kind for a set of so many words.
func anyHits(words int) []api.Hit {
	var l []api.Hit
	for _, end := range []int{math.MinInt, -1, 0, 3, 4, api.MaxFrom + 1, math.MaxInt} {
		for _, word := range append([]int{math.MinInt, math.MaxInt}, between(-2, words+1)...) {
			l = append(l, hit(end, word))
		}
	}
	return l
}

// TestLessGoesByTheWords: of any sets, such as may not be too; Rise of two hits tells the same.
func TestLessGoesByTheWords(t *testing.T) {
	sets := []list{
		{true, []string{"he", "she", "her"}},
		{false, []string{"a", "bb", "aa", "b", "ccc"}},
		{false, nil},
		{false, []string{""}},
		{true, []string{"", "A", "", "aa"}},
		{true, []string{"He", "HE", "he"}},
		{false, []string{strings.Repeat("x", 100), "x", strings.Repeat("y", 101)}},
	}
	for _, l := range sets {
		s, all := l.set(), anyHits(len(l.words))
		for _, a := range all {
			for _, b := range all {
				want := aheadByWords(l, a, b)
				if less, rise := occ.Less(s, a, b), occ.Rise(s, a, b); less != want || rise != want {
					t.Fatalf("%s: %v ahead of %v: %t, they rise: %t", l, a, b, less, rise)
				}
			}
		}
	}
}

func TestRiseByHand(t *testing.T) {
	he := []string{"he", "she", "her"}
	for _, c := range []struct {
		words []string
		hits  []api.Hit
		want  bool
	}{
		{he, nil, true},
		{he, []api.Hit{}, true},
		{he, hits(4, 1), true},
		{he, hits(-4, -1), true},
		{he, hits(4, 1, 4, 0, 5, 2), true},
		{he, hits(4, 0, 4, 1, 5, 2), false},
		{he, hits(4, 1, 5, 2, 4, 0), false},
		{he, hits(5, 2, 4, 1, 4, 0), false},
		{he, hits(4, 1, 4, 1), false},
		{he, hits(4, 1, 4, 0, 4, 0), false},
		{he, hits(4, 1, 4, 0, 4, 1), false},
		{he, hits(4, 1, 4, 1, 4, 0), false},
		{he, hits(4, 1, 4, 2, 4, 0, 4, -1, 4, 3, 5, 3), true},
		{he, hits(4, 1, 4, 2, 4, -1, 4, 0), false},
		{nil, hits(4, 0, 4, 1, 4, 2), true},
		{nil, hits(4, 1, 4, 0), false},
		{[]string{"", "", ""}, hits(4, -1, 4, 0, 4, 1, 4, 3), true},
		{[]string{"he", "he"}, hits(4, 0, 4, 1), true},
	} {
		for _, fold := range []bool{false, true} {
			l := list{fold, c.words}
			if got := occ.Rise(l.set(), c.hits...); got != c.want {
				t.Errorf("%s: %v rise: %t", l, c.hits, got)
			}
		}
	}
}

// TestRiseOfMany: wherever two hits of many do not rise, all do not.
func TestRiseOfMany(t *testing.T) {
	s := list{false, []string{"he", "she", "her"}}.set()
	var many []api.Hit
	for end := range 20 {
		many = append(many, hit(end, 1), hit(end, 2), hit(end, 0))
	}
	if !occ.Rise(s, many...) {
		t.Fatalf("%v: they do not rise", many)
	}
	for i := range many[1:] {
		wrong := slices.Clone(many)
		wrong[i], wrong[i+1] = wrong[i+1], wrong[i]
		if occ.Rise(s, wrong...) {
			t.Errorf("%d and the next one changed: they rise", i)
		}
		if twice := slices.Insert(slices.Clone(many), i, many[i]); occ.Rise(s, twice...) {
			t.Errorf("%d twice: they rise", i)
		}
	}
}

func TestBetweenByHand(t *testing.T) {
	four := hits(4, 1, 4, 0, 5, 2, 7, 0)
	for _, c := range []struct {
		low, high int
		hits      []api.Hit
		want      []api.Hit
	}{
		{0, 10, four, four},
		{3, 7, four, four},
		{4, 7, four, four[2:]},
		{3, 6, four, four[:3]},
		{3, 4, four, four[:2]},
		{4, 5, four, four[2:3]},
		{5, 6, four, nil},
		{7, 10, four, nil},
		{0, 3, four, nil},
		{4, 4, four, nil},
		{5, 4, four, nil},
		{10, 0, four, nil},
		{math.MinInt, math.MaxInt, four, four},
		{math.MaxInt, math.MinInt, four, nil},
		{0, 10, nil, nil},
		{0, 10, []api.Hit{}, nil},
		{0, 6, hits(7, 0, 5, 2, 4, 0, 4, 1, 5, 2), hits(5, 2, 4, 0, 4, 1, 5, 2)},
		{-5, -3, hits(-5, 0, -4, -1, -3, 9, -2, 0), hits(-4, -1, -3, 9)},
		{math.MinInt, 0, hits(math.MinInt, 0, math.MinInt+1, 0), hits(math.MinInt+1, 0)},
		{0, math.MaxInt, hits(math.MaxInt, 0, 0, 0), hits(math.MaxInt, 0)},
	} {
		if got := occ.Between(c.low, c.high, c.hits...); !slices.Equal(got, c.want) {
			t.Errorf("of %v, between %d and %d: %v", c.hits, c.low, c.high, got)
		}
	}
	if got := occ.Between(0, 10); len(got) != 0 {
		t.Errorf("of none: %v", got)
	}
}

func TestJoin(t *testing.T) {
	a, b := hits(4, 1, 4, 0), hits(5, 2)
	for _, c := range []struct {
		lists [][]api.Hit
		want  []api.Hit
	}{
		{nil, nil},
		{[][]api.Hit{}, nil},
		{[][]api.Hit{nil}, nil},
		{[][]api.Hit{nil, {}, nil}, nil},
		{[][]api.Hit{a}, a},
		{[][]api.Hit{a, b}, hits(4, 1, 4, 0, 5, 2)},
		{[][]api.Hit{b, a}, hits(5, 2, 4, 1, 4, 0)},
		{[][]api.Hit{nil, b, {}, a, nil, b, b}, hits(5, 2, 4, 1, 4, 0, 5, 2, 5, 2)},
		{[][]api.Hit{hits(-1, -1), hits(math.MaxInt, math.MinInt)}, hits(-1, -1, math.MaxInt, math.MinInt)},
	} {
		if got := occ.Join(c.lists...); !slices.Equal(got, c.want) {
			t.Errorf("Join(%v): %v", c.lists, got)
		}
	}
}

func TestSame(t *testing.T) {
	for _, c := range []struct {
		a, b []api.Hit
		want bool
	}{
		{nil, nil, true},
		{nil, []api.Hit{}, true},
		{nil, hits(0, 0), false},
		{hits(4, 1), hits(4, 1), true},
		{hits(4, 1), hits(4, 0), false},
		{hits(4, 1), hits(5, 1), false},
		{hits(4, 1), hits(1, 4), false},
		{hits(4, 1), hits(4, 1, 4, 1), false},
		{hits(4, 1, 4, 0), hits(4, 1, 4, 0), true},
		{hits(4, 1, 4, 0), hits(4, 0, 4, 1), false},
		{hits(4, 1, 4, 0, 5, 2), hits(4, 1, 4, 0, 5, 0), false},
		{hits(4, 1, 4, 0, 5, 2), hits(4, 1, 4, 0), false},
		{hits(-4, -1, math.MinInt, math.MaxInt), hits(-4, -1, math.MinInt, math.MaxInt), true},
	} {
		if occ.Same(c.a, c.b) != c.want || occ.Same(c.b, c.a) != c.want {
			t.Errorf("%v and %v: %t, %t", c.a, c.b, occ.Same(c.a, c.b), occ.Same(c.b, c.a))
		}
	}
}

// TestMemoryOfLists: lists that are handed in stay as they are, spare room included, whatever is done with what is told (R4).
func TestMemoryOfLists(t *testing.T) {
	room := hits(4, 1, 4, 0, 5, 2, 9, 9, 8, 8)
	before := slices.Clone(room)
	three := room[:3]
	s := list{false, []string{"he", "she", "her"}}.set()
	told := map[string]func() []api.Hit{
		"all between":       func() []api.Hit { return occ.Between(0, 10, three...) },
		"some between":      func() []api.Hit { return occ.Between(4, 10, three...) },
		"the first between": func() []api.Hit { return occ.Between(0, 4, three...) },
		"none between":      func() []api.Hit { return occ.Between(10, 0, three...) },
		"joined alone":      func() []api.Hit { return occ.Join(three) },
		"joined with none":  func() []api.Hit { return occ.Join(nil, three, nil) },
		"joined with more":  func() []api.Hit { return occ.Join(three, room[4:], three[:0]) },
		"joined, none":      func() []api.Hit { return occ.Join(three[:0]) },
	}
	for what, tell := range told {
		first, other := tell(), tell()
		want := slices.Clone(other)
		spoil(first)
		if !slices.Equal(other, want) {
			t.Errorf("%s: spoilt with another one: %v", what, other)
		}
		if !slices.Equal(room, before) {
			t.Fatalf("%s: what was handed in is now %v", what, room)
		}
		spoil(three)
		if !slices.Equal(other, want) {
			t.Errorf("%s: changed with what was handed in: %v", what, other)
		}
		copy(room, before)
	}
	lists := [][]api.Hit{three, nil, three[1:]}
	occ.Join(lists[:2]...)
	occ.Rise(s, three...)
	occ.Same(three, three[:2])
	if len(lists[0]) != 3 || lists[1] != nil || len(lists[2]) != 2 || !slices.Equal(room, before) {
		t.Errorf("what was handed in is now %v, of %v", lists, room)
	}
}
