package occ_test

import (
	"fmt"
	"slices"
	"sort"
	"strings"

	"teasel/api"
)

// list is a list of words that is looked for with fold or without.
type list struct {
	fold  bool
	words []string
}

func (l list) set() api.Set { return api.Set{Fold: l.fold, Words: ofStrings(l.words)} }

func (l list) String() string {
	return fmt.Sprintf("%d words %.60q, fold %t", len(l.words), l.words[:min(4, len(l.words))], l.fold)
}

func hit(end, word int) api.Hit { return api.Hit{End: end, Word: word} }

// hits are such of these Ends and Words, by turns.
func hits(of ...int) []api.Hit {
	var l []api.Hit
	for pair := range slices.Chunk(of, 2) {
		l = append(l, hit(pair[0], pair[1]))
	}
	return l
}

func ofStrings(l []string) [][]byte {
	var words [][]byte
	for _, w := range l {
		words = append(words, []byte(w))
	}
	return words
}

// texts are all texts of from least to most bytes of an alphabet.
func texts(alphabet string, least, most int) []string {
	all := []string{""}
	for from := 0; len(all[len(all)-1]) < most; {
		upTo := len(all)
		for _, s := range all[from:upTo] {
			for _, c := range alphabet {
				all = append(all, s+string(c))
			}
		}
		from = upTo
	}
	return slices.DeleteFunc(all, func(s string) bool { return len(s) < least })
}

// small are all sets of one or two short words.
func small() []list {
	var l []list
	for fold, words := range map[bool][]string{false: texts("aAb", 1, 2), true: texts("ab", 1, 3)} {
		for _, a := range words {
			l = append(l, list{fold, []string{a}})
			for _, b := range words {
				if a != b {
					l = append(l, list{fold, []string{a, b}})
				}
			}
		}
	}
	return l
}

// ordinary are sets of several words, such as end and overlap each other and themselves.
func ordinary() []list {
	var l []list
	for _, words := range [][]string{
		{"he", "she", "her"},
		{"her", "she", "he"},
		{"a", "aa", "aaa"},
		{"aaa", "a", "aa"},
		{"aa", "aaa", "a", "b"},
		{"aba", "bab", "ab", "ba"},
		{"b", "ab", "aab", "aaab"},
		{"bb", "b", "abb", "aabb", "ba"},
		{"\x00", "\xff\x00", "\xc1", "\xe1", "@", "`", "[", "{"},
	} {
		l = append(l, list{false, words}, list{true, words})
	}
	return append(l, list{false, []string{"A", "a", "aA", "Aa", "AA", "aa"}}, list{false, []string{"He", "hE", "she", "SHE"}})
}

// singles are so many words of one byte, no two of which are the same, with fold either.
func singles(many int) []string {
	var l []string
	for i := range many {
		l = append(l, string([]byte{byte(128 + i)}))
	}
	return l
}

// apart are so many bytes in words of up to long bytes, no two of which begin with the same byte.
func apart(together, long int) []string {
	var l []string
	for first := byte(1); together > 0; first++ {
		n := min(together, long)
		l = append(l, string([]byte{first})+strings.Repeat("x", n-1))
		together -= n
	}
	return l
}

// just are so many bytes in words that begin alike, no two of which are the same.
func just(together int) []string {
	var l []string
	for together > 0 {
		n := min(together, 25)
		l = append(l, strings.Repeat("x", n-1)+string([]byte{byte(128 + len(l))}))
		together -= n
	}
	return l
}

// greatest are sets that may be, at an edge of what may.
func greatest() []list {
	var l []list
	for _, words := range [][]string{
		singles(api.MaxWords), {strings.Repeat("x", api.MaxLength)}, apart(api.MaxStates-1, api.MaxLength), just(api.MaxBytes),
	} {
		l = append(l, list{false, words}, list{true, words})
	}
	return l
}

// wrong are sets that may not be.
func wrong() []list {
	var l []list
	for _, words := range [][]string{
		nil, {""}, {"he", ""}, {"", "he"}, {"he", "he"}, {"he", "she", "her", "he"},
		singles(api.MaxWords + 1), {strings.Repeat("x", api.MaxLength+1)}, apart(api.MaxStates, api.MaxLength), just(api.MaxBytes + 1),
	} {
		l = append(l, list{false, words}, list{true, words})
	}
	return append(l, list{true, []string{"He"}}, list{true, []string{"he", "HE"}}, list{true, []string{"she", "her", "Z"}})
}

// foldedByWords tells a text as it is compared, by the chapters' words.
func foldedByWords(fold bool, s string) string {
	b := []byte(s)
	for i, c := range b {
		if fold && c >= 65 && c <= 90 {
			b[i] = c + 32
		}
	}
	return string(b)
}

// standsByWords tells whether a hit stands in a text, by the chapter's words; the list may be, and From.
func standsByWords(l list, from int, text string, h api.Hit) bool {
	if h.Word < 0 || h.Word >= len(l.words) {
		return false
	}
	for place := range len(text) + 1 {
		if from+place == h.End {
			return strings.HasSuffix(foldedByWords(l.fold, text[:place]), foldedByWords(l.fold, l.words[h.Word]))
		}
	}
	return false
}

// lengthByWords tells how many bytes the word of a number has; 0, if it is no word's number.
func lengthByWords(l list, word int) int {
	for n, w := range l.words {
		if n == word {
			return len(w)
		}
	}
	return 0
}

// aheadByWords tells whether a hit comes ahead of another one, by the chapter's words.
func aheadByWords(l list, a, b api.Hit) bool {
	long, other := lengthByWords(l, a.Word), lengthByWords(l, b.Word)
	switch {
	case a.End != b.End:
		return a.End < b.End
	case long != other:
		return long > other
	}
	return a.Word < b.Word
}

// occByWords tells all hits that stand in a text, by the chapter's words: each place and each number is tried.
func occByWords(l list, from int, text string) []api.Hit {
	var found []api.Hit
	for place := range len(text) + 1 {
		for word := range l.words {
			if h := hit(from+place, word); standsByWords(l, from, text, h) {
				found = append(found, h)
			}
		}
	}
	sort.Slice(found, func(i, j int) bool { return aheadByWords(l, found[i], found[j]) })
	return found
}
