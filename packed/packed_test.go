package packed_test

import (
	"bytes"
	"encoding/binary"
	"fmt"
	"hash/adler32"
	"slices"
	"strings"
	"testing"

	"teasel/api"
	"teasel/packed"
)

var both = []bool{false, true}

// lists are lists of words, ordinary ones and such as are at an edge.
func lists() [][]string {
	l := [][]string{
		nil,
		{""},
		{"", ""},
		{"", "he", ""},
		{"a"},
		{"he", "a"},
		{"a", "he"},
		{"he", "she", "her"},
		{"he", "he", "HE", "He"},
		{"\x00"},
		{"\x00\x00", "\xff\xff\xff", "\x80", "\x7f"},
		{"TSL1", "TSL1\x00\x00"},
	}
	for _, long := range []int{127, 128, 129, 300, 16383, 16384, 20000} {
		l = append(l,
			[]string{strings.Repeat("x", long)},
			[]string{"he", strings.Repeat("\x80", long), "", "she"},
			slices.Repeat([]string{""}, long),
			slices.Repeat([]string{"he"}, long),
			slices.Repeat([]string{"", "she"}, long),
		)
	}
	return l
}

// middles are bytes between the flags and the sum that are no words.
var middles = []struct {
	name, b string
	e       api.Errno
}{
	{"no number: a byte that goes on", "\x80", api.ErrForm},
	{"no number: two that go on", "\xff\xff", api.ErrForm},
	{"no number: longer than need be", "\x80\x00", api.ErrForm},
	{"no number: longer than need be, of a word", "\x82\x00\x01a\x01b", api.ErrForm},
	{"no number: four go on", "\x80\x80\x80\x80", api.ErrForm},
	{"no number: five go on", "\x80\x80\x80\x80\x80", api.ErrForm},
	{"no number: a fifth of 0", "\x80\x80\x80\x80\x00", api.ErrForm},
	{"no number: a fifth of 0, and more", "\x81\x80\x80\x80\x00\x01a", api.ErrForm},
	{"no number: a fifth that is too great", "\x80\x80\x80\x80\x08", api.ErrForm},
	{"no number: a fifth with a bit too many", "\xff\xff\xff\xff\x0f", api.ErrForm},
	{"no number: six bytes", "\x80\x80\x80\x80\x80\x01", api.ErrForm},
	{"no number: five go on, of a word", "\x81\x80\x80\x80\x80\x00\x01a", api.ErrForm},
	{"a word's number is not there", "\x01", api.ErrForm},
	{"the second word's number is not there", "\x02\x01a", api.ErrForm},
	{"the greatest number of words, none there", "\xff\xff\xff\xff\x07", api.ErrForm},
	{"the greatest number of words, one there", "\xff\xff\xff\xff\x07\x01a", api.ErrForm},
	{"more than a byte of words, too few there", "\x80\x01\x00\x00\x00", api.ErrForm},
	{"a word's number goes on", "\x01\x80", api.ErrForm},
	{"a word's number is longer than need be", "\x01\x80\x00", api.ErrForm},
	{"a word's number is longer than need be, its byte there", "\x01\x81\x00a", api.ErrForm},
	{"a word's number has a fifth of 0", "\x01\x81\x80\x80\x80\x00a", api.ErrForm},
	{"a word's number has a fifth that is too great", "\x01\x81\x80\x80\x80\x08a", api.ErrForm},
	{"a word's number has six bytes", "\x01\x81\x80\x80\x80\x80\x01a", api.ErrForm},
	{"the second word's number is none", "\x02\x01a\x81\x00b", api.ErrForm},
	{"a word of one byte, none there", "\x01\x01", api.ErrForm},
	{"a word of two bytes, one there", "\x01\x02a", api.ErrForm},
	{"the greatest word, one byte there", "\x01\xff\xff\xff\xff\x07a", api.ErrForm},
	{"a second word of three bytes, two there", "\x02\x01a\x03bc", api.ErrForm},
	{"a word of 128 bytes, 127 there", "\x01\x80\x01" + strings.Repeat("x", 127), api.ErrForm},
	{"a byte behind no words", "\x00\x00", api.ErrRest},
	{"bytes behind no words", "\x00\x80\x00", api.ErrRest},
	{"a byte behind a word", "\x01\x01ab", api.ErrRest},
	{"a word behind the last one", "\x01\x01a\x01b", api.ErrRest},
	{"a byte of 0 behind a word", "\x01\x01a\x00", api.ErrRest},
	{"no number behind a word", "\x01\x01a\x80", api.ErrRest},
	{"a byte behind an empty word", "\x01\x00\x00", api.ErrRest},
	{"a sum behind the last word", "\x01\x01a\x00\x00\x00\x01", api.ErrRest},
	{"a byte behind 128 words", "\x80\x01" + strings.Repeat("\x00", 129), api.ErrRest},
	{"words behind 128 words", "\x80\x01" + strings.Repeat("\x02he", 130), api.ErrRest},
}

func TestPutTellsBytes(t *testing.T) {
	for _, c := range []struct {
		fold  bool
		words []string
		want  string
	}{
		{false, nil, "TSL1\x00\x00\x05\x60\x01\x25"},
		{true, nil, "TSL1\x01\x00\x05\x62\x01\x26"},
		{true, []string{"he", "a"}, "TSL1\x01\x02\x02he\x01a\x0e\x68\x02\x59"},
		{false, []string{"he", "a"}, "TSL1\x00\x02\x02he\x01a\x0e\x61\x02\x58"},
		{false, []string{""}, "TSL1\x00\x01\x00\x06\x87\x01\x26"},
	} {
		if got := packed.Put(c.fold, ofStrings(c.words)...); string(got) != c.want {
			t.Errorf("Put(%t, %q): %q and not %q", c.fold, c.words, got, c.want)
		}
	}
}

func TestPutGoesByTheWords(t *testing.T) {
	for _, words := range lists() {
		for _, fold := range both {
			want := byWords(fold, words)
			if got := packed.Put(fold, ofStrings(words)...); string(got) != want {
				t.Errorf("%s, fold %t: %.60q and not %.60q", short(words), fold, got, want)
			}
			if got := packed.Size(ofStrings(words)...); got != len(want) {
				t.Errorf("the size of %s: %d and not %d", short(words), got, len(want))
			}
		}
	}
}

func TestNilIsEmpty(t *testing.T) {
	for _, fold := range both {
		if got := packed.Put(fold, [][]byte{}...); string(got) != byWords(fold, nil) || string(packed.Put(fold)) != string(got) {
			t.Errorf("no words: %q", got)
		}
		want := byWords(fold, []string{"", "he", "", ""})
		if got := packed.Put(fold, nil, []byte("he"), []byte{}, nil); string(got) != want {
			t.Errorf("words of nothing: %q and not %q", got, want)
		}
	}
	if got := packed.Size([][]byte{}...); got != 10 || packed.Size() != 10 {
		t.Errorf("the size of no words: %d, %d", got, packed.Size())
	}
	if got := packed.Size(nil, []byte("he"), []byte{}, nil); got != 16 {
		t.Errorf("the size of words of nothing: %d", got)
	}
}

func TestSame(t *testing.T) {
	for _, c := range []struct {
		a, b []string
		want bool
	}{
		{nil, nil, true},
		{nil, []string{""}, false},
		{[]string{""}, []string{""}, true},
		{[]string{""}, []string{"", ""}, false},
		{[]string{"he"}, []string{"he"}, true},
		{[]string{"he"}, []string{"He"}, false},
		{[]string{"he"}, []string{"hf"}, false},
		{[]string{"he"}, []string{"eh"}, false},
		{[]string{"he"}, []string{"h"}, false},
		{[]string{"he"}, []string{"her"}, false},
		{[]string{"he"}, []string{""}, false},
		{[]string{"he"}, []string{"h", "e"}, false},
		{[]string{"h", "e"}, []string{"he", ""}, false},
		{[]string{"he", "she"}, []string{"he", "she"}, true},
		{[]string{"he", "she"}, []string{"she", "he"}, false},
		{[]string{"he", "she"}, []string{"he"}, false},
		{[]string{"he", "she"}, []string{"he", "he"}, false},
		{[]string{"he", "she"}, []string{"he", "she", ""}, false},
		{[]string{"he", "she", "her"}, []string{"he", "she", "hex"}, false},
		{[]string{"\x00", "\xff"}, []string{"\x00", "\xff"}, true},
		{[]string{"\x00"}, []string{"\x00\x00"}, false},
	} {
		a, b := ofStrings(c.a), ofStrings(c.b)
		if packed.Same(a, b) != c.want || packed.Same(b, a) != c.want {
			t.Errorf("%q and %q: %t, %t", c.a, c.b, packed.Same(a, b), packed.Same(b, a))
		}
	}
	if !packed.Same(nil, [][]byte{}) || !packed.Same([][]byte{}, nil) {
		t.Error("nil and a list of no words: not the same")
	}
	if !packed.Same([][]byte{nil, {}}, [][]byte{{}, nil}) {
		t.Error("nil and words of no bytes: not the same")
	}
	if packed.Same(nil, [][]byte{nil}) || packed.Same([][]byte{nil}, [][]byte{}) {
		t.Error("nil and a nil word: the same")
	}
}

// TestWhatIsPutIsTaken: and what is taken, put again, has the same bytes (P4.4).
func TestWhatIsPutIsTaken(t *testing.T) {
	for _, words := range lists() {
		for _, fold := range both {
			b := packed.Put(fold, ofStrings(words)...)
			gotFold, got, e := packed.Take(b)
			if gotFold != fold || !slices.Equal(toStrings(got), words) || !packed.Same(got, ofStrings(words)) || e != api.OK {
				t.Errorf("%s, fold %t: taken %t, %s, %d", short(words), fold, gotFold, short(toStrings(got)), e)
			}
			if again := packed.Put(gotFold, got...); !bytes.Equal(again, b) {
				t.Errorf("%s, fold %t: put again %.60q", short(words), fold, again)
			}
			if got, e := packed.Head(b); got != fold || e != api.OK {
				t.Errorf("%s: the head tells %t, %d and not %t", short(words), got, e, fold)
			}
		}
	}
}

func TestTakeByHand(t *testing.T) {
	for _, c := range []struct {
		b     string
		fold  bool
		words []string
	}{
		{"TSL1\x00\x00\x05\x60\x01\x25", false, nil},
		{"TSL1\x01\x02\x02he\x01a\x0e\x68\x02\x59", true, []string{"he", "a"}},
		{summed("TSL1\x00\x80\x01" + strings.Repeat("\x01x", 128)), false, slices.Repeat([]string{"x"}, 128)},
		{summed("TSL1\x01\x01\x80\x01" + strings.Repeat("x", 128)), true, []string{strings.Repeat("x", 128)}},
	} {
		fold, words, e := packed.Take([]byte(c.b))
		if fold != c.fold || !slices.Equal(toStrings(words), c.words) || e != api.OK {
			t.Errorf("Take(%q): %t, %q, %d", c.b, fold, words, e)
		}
	}
}

func TestHeadRefuses(t *testing.T) {
	for _, c := range []struct {
		name, b string
		e       api.Errno
	}{
		{"no bytes", "", api.ErrShort},
		{"9 bytes", "TSL1\x00\x00\x05\x60\x01", api.ErrShort},
		{"9 bytes, the sum right", summed("TSL1\x00"), api.ErrShort},
		{"9 bytes, the sum right, with fold", summed("TSL1\x01"), api.ErrShort},
		{"9 bytes of all errors", "tsl1\x02wron", api.ErrShort},
		{"9 bytes, the flags wrong", summed("TSL1\x02"), api.ErrShort},
		{"10 bytes of all errors", "tsl1\x02wrong", api.ErrMagic},
		{"another beginning and flags, the sum right", summed("TSL2\x02\x00"), api.ErrMagic},
		{"another beginning, the sum right", summed("TSL0\x00\x00"), api.ErrMagic},
		{"another beginning, the sum right, with fold", summed("TSL0\x01\x00"), api.ErrMagic},
		{"another beginning and sum", "TSL0\x01\x00\x05\x62\x01\x26", api.ErrMagic},
		{"the beginning in small letters", summed("tsl1\x00\x00"), api.ErrMagic},
		{"the beginning a place too late", summed("\x00TSL1\x00\x00"), api.ErrMagic},
		{"flags of 2, the sum right", summed("TSL1\x02\x00"), api.ErrFlags},
		{"flags of 2, another sum", "TSL1\x02\x00\x05\x62\x01\x26", api.ErrFlags},
		{"flags of 3", summed("TSL1\x03\x00"), api.ErrFlags},
		{"flags of 49", summed("TSL11\x00"), api.ErrFlags},
		{"flags of 128", summed("TSL1\x80\x00"), api.ErrFlags},
		{"flags of 129", summed("TSL1\x81\x00"), api.ErrFlags},
		{"flags of 255", summed("TSL1\xff\x00"), api.ErrFlags},
		{"flags of 2, and no words", summed("TSL1\x02\x80"), api.ErrFlags},
		{"a sum of 0", "TSL1\x01\x00\x00\x00\x00\x00", api.ErrSum},
		{"the sum of a byte less", "TSL1\x01\x00" + sumOf("TSL1\x01"), api.ErrSum},
		{"the sum from the flags on", "TSL1\x01\x00" + sumOf("\x01\x00"), api.ErrSum},
		{"the sum with the lowest byte first", "TSL1\x01\x00\x26\x01\x62\x05", api.ErrSum},
		{"another sum, and no words", "TSL1\x01\x80\x00\x00\x00\x00", api.ErrSum},
		{"a byte behind the sum", summed("TSL1\x01\x00") + "\x00", api.ErrSum},
		{"the sum twice", summed("TSL1\x01\x00") + sumOf("TSL1\x01\x00"), api.ErrSum},
	} {
		if fold, e := packed.Head([]byte(c.b)); fold || e != c.e {
			t.Errorf("%s: the head tells %t, %d and not %d", c.name, fold, e, c.e)
		}
		if fold, words, e := packed.Take([]byte(c.b)); fold || len(words) != 0 || e != c.e {
			t.Errorf("%s: taken %t, %q, %d and not %d", c.name, fold, words, e, c.e)
		}
	}
	if fold, e := packed.Head(nil); fold || e != api.ErrShort {
		t.Errorf("nil: the head tells %t, %d", fold, e)
	}
	if fold, words, e := packed.Take(nil); fold || len(words) != 0 || e != api.ErrShort {
		t.Errorf("nil: taken %t, %q, %d", fold, words, e)
	}
}

func TestFlags(t *testing.T) {
	for flags := range 256 {
		b := []byte(summed("TSL1" + string([]byte{byte(flags)}) + "\x00"))
		want := api.OK
		if flags > 1 {
			want = api.ErrFlags
		}
		fold, e := packed.Head(b)
		takenFold, words, takenE := packed.Take(b)
		if fold != (flags == 1) || e != want || takenFold != fold || takenE != e || len(words) != 0 {
			t.Errorf("flags of %d: the head tells %t, %d; taken %t, %q, %d", flags, fold, e, takenFold, words, takenE)
		}
	}
}

// TestBegunListsAreRefused: all beginnings of a list but the whole.
func TestBegunListsAreRefused(t *testing.T) {
	for _, fold := range both {
		b := packed.Put(fold, []byte("he"), nil, []byte("she"))
		for many := range len(b) {
			want := api.ErrSum
			if many < 10 {
				want = api.ErrShort
			}
			gotFold, words, e := packed.Take(b[:many])
			if gotFold || len(words) != 0 || e != want {
				t.Errorf("the first %d of %d bytes: %t, %q, %d and not %d", many, len(b), gotFold, words, e, want)
			}
		}
	}
}

// TestAnotherByteMakesItNone: each byte turned into each other one (P4.4).
func TestAnotherByteMakesItNone(t *testing.T) {
	for _, words := range [][]string{nil, {""}, {"he", "a"}, {"he", "", "she", "\x00\xff"}, {strings.Repeat("x", 130)}, slices.Repeat([]string{""}, 130)} {
		for _, fold := range both {
			b := packed.Put(fold, ofStrings(words)...)
			for place, was := range b {
				for c := range 256 {
					if b[place] = byte(c); byte(c) == was {
						continue
					}
					want := errorAt(place, c)
					headFold, headE := packed.Head(b)
					gotFold, got, e := packed.Take(b)
					if gotFold || len(got) != 0 || e != want || headFold || headE != want {
						t.Fatalf("%s: byte %d is %d and not %d: %t, %q, %d and not %d", short(words), place, c, was, gotFold, got, e, want)
					}
				}
				b[place] = was
			}
		}
	}
}

// errorAt is what a list tells of which one byte is another one, by its place.
func errorAt(place, c int) api.Errno {
	if place < 4 {
		return api.ErrMagic
	}
	if place == 4 && c > 1 {
		return api.ErrFlags
	}
	return api.ErrSum
}

func TestTakeRefuses(t *testing.T) {
	for _, m := range middles {
		for _, flags := range []string{"\x00", "\x01"} {
			b := []byte(summed("TSL1" + flags + m.b))
			if fold, words, e := packed.Take(b); fold || len(words) != 0 || e != m.e {
				t.Errorf("%s: %t, %q, %d and not %d", m.name, fold, words, e, m.e)
			}
			if fold, e := packed.Head(b); fold != (flags == "\x01") || e != api.OK {
				t.Errorf("%s: the head tells %t, %d", m.name, fold, e)
			}
		}
	}
}

// TestTakeGoesByTheWords tries all rows of up to six bytes, of such bytes as matter, between the flags and the sum.
func TestTakeGoesByTheWords(t *testing.T) {
	for row := range rows([]byte{0, 1, 2, 3, 7, 8, 0x80, 0x81}, 6) {
		if len(row) == 0 { // there is no list without a number
			continue
		}
		b := []byte(summed("TSL1\x01" + string(row)))
		fold, words, e := packed.Take(b)
		want, wantE := wordsOf(row)
		if fold != (wantE == api.OK) || !slices.Equal(toStrings(words), want) || e != wantE {
			t.Fatalf("%q: %t, %q, %d and not %q, %d", row, fold, words, e, want, wantE)
		}
		if e == api.OK && !bytes.Equal(packed.Put(fold, words...), b) {
			t.Fatalf("%q: put again %q", row, packed.Put(fold, words...))
		}
	}
}

// TestGreatLists: numbers of four bytes, and so many words that reading one must not cost as much as all that are left.
func TestGreatLists(t *testing.T) {
	for _, words := range [][][]byte{
		slices.Repeat([][]byte{[]byte("h"), nil}, 1<<20),
		{nil, bytes.Repeat([]byte("h"), 1<<21-1), bytes.Repeat([]byte("e"), 1<<21)},
	} {
		b := packed.Put(true, words...)
		fold, got, e := packed.Take(b)
		if !fold || e != api.OK || !packed.Same(got, words) || len(b) != packed.Size(words...) || len(b) != len(byWords(true, toStrings(words))) {
			t.Errorf("%d words in %d bytes: %t, %d words, %d", len(words), len(b), fold, len(got), e)
		}
	}
}

// TestMemory: what is handed in stays as it is, spare room included, and what is told is new (R4).
func TestMemory(t *testing.T) {
	room := append(packed.Put(true, []byte("he"), nil, []byte("she"), []byte("her")), "-spare"...)
	b, before := room[:len(room)-6], string(room)
	_, words, _ := packed.Take(b)
	_, again, _ := packed.Take(b)
	want := []string{"he", "", "she", "her"}
	for i := range words {
		for j := range append(words[i], "and more than that"...) {
			if j < cap(words[i]) {
				words[i][:cap(words[i])][j] = '!'
			}
		}
		if !slices.Equal(toStrings(words[i+1:]), want[i+1:]) {
			t.Fatalf("word %d was changed: %q", i, words)
		}
	}
	clear(words[:cap(words)])
	if string(room) != before || !slices.Equal(toStrings(again), want) {
		t.Errorf("what was handed in: %q; what was told again: %q", room, again)
	}

	text := []byte("heshe-spare")
	list := [][]byte{text[:2], text[2:5], []byte("spare")}
	one := packed.Put(false, list[:2]...)
	two := packed.Put(false, list[:2]...)
	packed.Size(list[:2]...)
	packed.Same(list[:2], list[1:2])
	clear(one[:cap(one)])
	clear(append(one, "more"...))
	if string(text) != "heshe-spare" || !slices.Equal(toStrings(list), []string{"he", "she", "spare"}) || string(two) != byWords(false, []string{"he", "she"}) {
		t.Errorf("what was handed in: %q, %q; what was told again: %q", text, list, two)
	}
}

// byWords packs a list by the chapter's words.
func byWords(fold bool, words []string) string {
	b := []byte{84, 83, 76, 49, 0}
	if fold {
		b[4] = 1
	}
	b = binary.AppendUvarint(b, uint64(len(words)))
	for _, w := range words {
		b = append(binary.AppendUvarint(b, uint64(len(w))), w...)
	}
	return summed(string(b))
}

// wordsOf reads what stands between the flags and the sum by the chapter's words.
func wordsOf(b []byte) ([]string, api.Errno) {
	many, b, right := numberOf(b)
	var words []string
	for i := 0; right && i < many; i++ {
		var n int
		if n, b, right = numberOf(b); right && n > len(b) {
			right = false
		}
		if right {
			words, b = append(words, string(b[:n])), b[n:]
		}
	}
	if !right {
		return nil, api.ErrForm
	}
	if len(b) > 0 {
		return nil, api.ErrRest
	}
	return words, api.OK
}

// numberOf tells a number, what stands behind it, and whether it is one: it may be told, and has no bytes but those it needs.
func numberOf(b []byte) (int, []byte, bool) {
	n, many := binary.Uvarint(b)
	if many <= 0 || n > api.MaxNumber || len(binary.AppendUvarint(nil, n)) != many {
		return 0, nil, false
	}
	return int(n), b[many:], true
}

// summed puts the sum's value behind some bytes.
func summed(b string) string { return b + sumOf(b) }

func sumOf(b string) string {
	return string(binary.BigEndian.AppendUint32(nil, adler32.Checksum([]byte(b))))
}

// rows yields all rows of these bytes, up to a length.
func rows(of []byte, longest int) func(yield func([]byte) bool) {
	return func(yield func([]byte) bool) {
		var more func(row []byte) bool
		more = func(row []byte) bool {
			if !yield(row) {
				return false
			}
			if len(row) == longest {
				return true
			}
			for _, c := range of {
				if !more(append(slices.Clone(row), c)) {
					return false
				}
			}
			return true
		}
		more(nil)
	}
}

func ofStrings(l []string) [][]byte {
	var words [][]byte
	for _, w := range l {
		words = append(words, []byte(w))
	}
	return words
}

func toStrings(words [][]byte) []string {
	var l []string
	for _, w := range words {
		l = append(l, string(w))
	}
	return l
}

// short tells of a list what a message has room for.
func short(words []string) string {
	return fmt.Sprintf("%d words %.60q", len(words), words[:min(3, len(words))])
}
