package occ

import (
	"cmp"
	"iter"
	"slices"

	"teasel/api"
	"teasel/letter"
)

// gathered are hits, with the set whose words they are.
type gathered struct {
	api.Set
	hits []api.Hit
}

// known tells whether a hit's Word is the number of a word.
func (g *gathered) known(h api.Hit) bool { return 0 <= h.Word && h.Word < len(g.Words) }

// length tells how many bytes a hit's word has; 0, if its Word is no word's number.
func (g *gathered) length(h api.Hit) int {
	if !g.known(h) {
		return 0
	}
	return len(g.Words[h.Word])
}

// compare tells a number below 0 if a comes ahead of b, above 0 if b comes ahead of a, else 0.
func (g *gathered) compare(a, b api.Hit) int {
	return cmp.Or(
		cmp.Compare(a.End, b.End),
		cmp.Compare(g.length(b), g.length(a)),
		cmp.Compare(a.Word, b.Word),
	)
}

// rise tells whether each hit but the last one comes ahead of the next one.
func (g *gathered) rise() bool {
	for i, h := range g.hits {
		if i > 0 && g.compare(g.hits[i-1], h) >= 0 {
			return false
		}
	}
	return true
}

// at tells whether the word of a number stands at a place of a text.
func (g *gathered) at(text []byte, place, number int) bool {
	return letter.At(g.Fold, text, place, g.Words[number])
}

// gather adds all hits of a text, rising: End by End, and of each End in the order of those that end at one place.
func (g *gathered) gather(from int, text []byte) {
	words := g.ranked()
	for place := range places(text) {
		for _, n := range words {
			if g.at(text, place, n) {
				g.hits = append(g.hits, api.Hit{End: from + place, Word: n})
			}
		}
	}
}

// ranked tells the words' numbers in the order in which hits of one End come.
func (g *gathered) ranked() []int {
	numbers := make([]int, len(g.Words))
	for n := range numbers {
		numbers[n] = n
	}
	slices.SortFunc(numbers, func(a, b int) int { return g.compare(api.Hit{Word: a}, api.Hit{Word: b}) })
	return numbers
}

// places goes through the places of a text, from its begin to its end.
func places(text []byte) iter.Seq[int] {
	return func(yield func(int) bool) {
		for place := range len(text) + 1 {
			if !yield(place) {
				return
			}
		}
	}
}
