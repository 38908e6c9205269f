package patset

import (
	"bytes"
	"iter"
	"slices"

	"teasel/api"
	"teasel/letter"
)

// counted is a list as it is given, of which words and their bytes are counted.
type counted struct{ words [][]byte }

func (c counted) many() int { return len(c.words) }

// some tells whether a word is of a length that is asked for.
func (c counted) some(asked func(length int) bool) bool {
	return slices.ContainsFunc(c.words, func(w []byte) bool { return asked(len(w)) })
}

// each hands on the length of each word.
func (c counted) each(take func(length int)) {
	for _, w := range c.words {
		take(len(w))
	}
}

func (c counted) longest() int {
	most := 0
	c.each(func(length int) { most = max(most, length) })
	return most
}

// together tells how many bytes all words have.
func (c counted) together() int {
	all := 0
	c.each(func(length int) { all += length })
	return all
}

// looked is a list that is looked at with fold or without.
type looked struct {
	counted
	fold bool
}

func look(fold bool, words ...[]byte) looked { return looked{counted{words}, fold} }

// fault tells the list's first error.
func (l looked) fault() api.Errno {
	switch {
	case l.many() == 0:
		return api.ErrNone
	case l.many() > api.MaxWords:
		return api.ErrMany
	case l.some(func(length int) bool { return length == 0 }):
		return api.ErrEmpty
	case l.longest() > api.MaxLength:
		return api.ErrLong
	case l.together() > api.MaxBytes:
		return api.ErrBytes
	case l.nodes() > api.MaxStates:
		return api.ErrStates
	}
	return api.OK
}

// told goes through the words as a set has them, each in memory of its own.
func (l looked) told() iter.Seq[[]byte] {
	own := bytes.Clone
	if l.fold {
		own = letter.Folded
	}
	return func(yield func([]byte) bool) {
		for _, w := range l.words {
			if !yield(own(w)) {
				return
			}
		}
	}
}

// nodes tells how many different beginnings there are; the empty one counts, whether or not there is a word.
func (l looked) nodes() int {
	greatest := 0
	for n := range l.beginnings() {
		greatest = max(greatest, n)
	}
	return 1 + greatest
}

// beginnings goes through the numbers of the words' beginnings but the empty one, word by word, the shorter ones first; beginnings that are the same have the same number.
func (l looked) beginnings() iter.Seq[int] {
	return func(yield func(int) bool) {
		known := numbers{}
		for w := range l.told() {
			n := 0
			for _, c := range w {
				if n = known.of(beginning{n, c}); !yield(n) {
					return
				}
			}
		}
	}
}

// beginning is one by the number of what stands ahead of its last byte, and that byte: with all its bytes kept for each, a long word would take room by its square.
type beginning struct {
	ahead int
	last  byte
}

// numbers are those of the beginnings that came, from 1 on; 0 is the empty one's.
type numbers map[beginning]int

func (n numbers) of(b beginning) int {
	if _, known := n[b]; !known {
		n[b] = 1 + len(n)
	}
	return n[b]
}
