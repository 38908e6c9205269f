package letter_test

import (
	"bytes"
	"math"
	"slices"
	"strings"
	"testing"

	"teasel/letter"
)

// both are the two ways in which texts are compared.
var both = []bool{false, true}

// alphabet holds bytes that are told apart with fold, such as are not, and those beside the letters.
const alphabet = "aAb"

// edges are the bytes at the letters' edges, those beside them, and those 32 apart from these.
const edges = "\x00 !\x1f\x20:;?@ABMYZ[\\`abmyz{|\x7f\x80\xc0\xc1\xda\xdb\xe0\xe1\xfa\xfb\xff"

// texts are all texts of up to n bytes of the alphabet.
func texts(n int) []string {
	all := []string{""}
	for from := 0; n > 0; n-- {
		upTo := len(all)
		for _, s := range all[from:upTo] {
			for _, c := range alphabet {
				all = append(all, s+string(c))
			}
		}
		from = upTo
	}
	return all
}

func TestFoldByHand(t *testing.T) {
	for _, c := range []struct{ c, want byte }{
		{'A', 'a'}, {'B', 'b'}, {'M', 'm'}, {'Y', 'y'}, {'Z', 'z'},
		{'@', '@'}, {'[', '['}, {'`', '`'}, {'{', '{'}, {'a', 'a'}, {'z', 'z'},
		{0, 0}, {' ', ' '}, {'0', '0'}, {127, 127}, {128, 128}, {'A' + 128, 'A' + 128}, {'Z' + 128, 'Z' + 128}, {255, 255},
	} {
		if got := letter.Fold(c.c); got != c.want {
			t.Errorf("Fold(%d): %d and not %d", c.c, got, c.want)
		}
	}
}

func TestFoldEveryByte(t *testing.T) {
	for i := range 256 {
		c := byte(i)
		if got, want := letter.Fold(c), foldByWords(c); got != want {
			t.Errorf("Fold(%d): %d and not %d", c, got, want)
		}
		if got := letter.Fold(letter.Fold(c)); got != letter.Fold(c) {
			t.Errorf("%d folded twice: %d", c, got)
		}
	}
}

func TestFolded(t *testing.T) {
	for _, c := range []struct{ b, want string }{
		{"", ""},
		{"ushers", "ushers"},
		{"UsHeRs", "ushers"},
		{"@AZ[`az{", "@az[`az{"},
		{"\x00\xc1\xff", "\x00\xc1\xff"},
		{strings.Repeat("Xy", 5000), strings.Repeat("xy", 5000)},
	} {
		got := letter.Folded([]byte(c.b))
		if string(got) != c.want {
			t.Errorf("Folded(%q): %q and not %q", c.b, got, c.want)
		}
		if again := letter.Folded(got); string(again) != c.want {
			t.Errorf("%q folded twice: %q", c.b, again)
		}
	}
	if got := letter.Folded(nil); len(got) != 0 {
		t.Errorf("Folded(nil): %q", got)
	}
	every := make([]byte, 256)
	for i := range every {
		every[i] = byte(i)
	}
	for i, c := range letter.Folded(every) {
		if c != foldByWords(byte(i)) {
			t.Errorf("%d, among all bytes: %d", i, c)
		}
	}
}

func TestSameByHand(t *testing.T) {
	for _, c := range []struct {
		a, b           string
		plain, folding bool
	}{
		{"", "", true, true},
		{"", "a", false, false},
		{"aB", "Ab", false, true},
		{"aB", "aB", true, true},
		{"ab", "abc", false, false},
		{"abc", "bc", false, false},
		{"a", "b", false, false},
		{"Ab", "Ac", false, false},
		{"@", "`", false, false},
		{"[", "{", false, false},
		{"A", "!", false, false},
		{"\xc1", "\xe1", false, false},
		{"x\x00", "X\x00", false, true},
		{"x\x00", "X", false, false},
		{"ushers, and She", "USHERS, AND SHE", false, true},
		{"ushers, and She", "USHERS, AND HE!", false, false},
	} {
		for _, p := range [][2]string{{c.a, c.b}, {c.b, c.a}} {
			if got := letter.Same(false, []byte(p[0]), []byte(p[1])); got != c.plain {
				t.Errorf("%q and %q, without fold: %t", p[0], p[1], got)
			}
			if got := letter.Same(true, []byte(p[0]), []byte(p[1])); got != c.folding {
				t.Errorf("%q and %q, with fold: %t", p[0], p[1], got)
			}
		}
	}
}

func TestSameOfEachTwoBytes(t *testing.T) {
	for i := range 256 {
		for j := range 256 {
			a, b := byte(i), byte(j)
			if got := letter.Same(false, []byte{a}, []byte{b}); got != (a == b) {
				t.Errorf("%d and %d, without fold: %t", a, b, got)
			}
			if got := letter.Same(true, []byte{a}, []byte{b}); got != (foldByWords(a) == foldByWords(b)) {
				t.Errorf("%d and %d, with fold: %t", a, b, got)
			}
		}
	}
}

func TestSameGoesByTheWords(t *testing.T) {
	all := append(texts(4), strings.Split(edges, "")...)
	for _, fold := range both {
		for _, a := range all {
			for _, b := range all {
				if got, want := letter.Same(fold, []byte(a), []byte(b)), sameByWords(fold, a, b); got != want {
					t.Fatalf("%q and %q, fold %t: %t", a, b, fold, got)
				}
			}
		}
	}
}

func TestSameOfNothing(t *testing.T) {
	for _, fold := range both {
		for _, a := range [][]byte{nil, {}} {
			for _, b := range [][]byte{nil, {}} {
				if !letter.Same(fold, a, b) {
					t.Errorf("%v and %v, fold %t: no", a, b, fold)
				}
			}
			if letter.Same(fold, a, []byte{0}) || letter.Same(fold, []byte{0}, a) {
				t.Errorf("%v and one byte, fold %t: yes", a, fold)
			}
		}
	}
}

// TestSameOneByteApart: wherever one byte is another one, the texts are not the same.
func TestSameOneByteApart(t *testing.T) {
	for n := 1; n <= 40; n++ {
		a := bytes.Repeat([]byte("x"), n)
		for i := range n {
			b := slices.Clone(a)
			b[i] = 'y'
			for _, fold := range both {
				if letter.Same(fold, a, b) || letter.Same(fold, b, a) {
					t.Errorf("%q and %q, fold %t: yes", a, b, fold)
				}
			}
			b[i] = 'X'
			if letter.Same(false, a, b) || !letter.Same(true, a, b) {
				t.Errorf("%q and %q: %t, with fold %t", a, b, letter.Same(false, a, b), letter.Same(true, a, b))
			}
		}
	}
}

// TestSameFolded: what is the same is so with fold too; with fold that is the same which is so folded (P3.3).
func TestSameFolded(t *testing.T) {
	for _, a := range texts(4) {
		for _, b := range texts(4) {
			plain, folding := letter.Same(false, []byte(a), []byte(b)), letter.Same(true, []byte(a), []byte(b))
			if plain && !folding {
				t.Fatalf("%q and %q: the same, but not with fold", a, b)
			}
			if got := letter.Same(false, letter.Folded([]byte(a)), letter.Folded([]byte(b))); got != folding {
				t.Fatalf("%q and %q: folded %t, with fold %t", a, b, got, folding)
			}
		}
	}
}

func TestAtByHand(t *testing.T) {
	for _, c := range []struct {
		text           string
		place          int
		word           string
		plain, folding bool
	}{
		{"abcd", 3, "bc", true, true},
		{"abcd", 2, "bc", false, false},
		{"abcd", 4, "bc", false, false},
		{"abcd", 3, "Bc", false, true},
		{"aBCd", 3, "bc", false, true},
		{"abcd", 4, "abcd", true, true},
		{"abcd", 4, "ABCD", false, true},
		{"abcd", 3, "abcd", false, false},
		{"abcd", 5, "abcd", false, false},
		{"abcd", 5, "bcd", false, false},
		{"abcd", 4, "abcde", false, false},
		{"abcd", 5, "abcde", false, false},
		{"abcd", 1, "a", true, true},
		{"abcd", 0, "a", false, false},
		{"abcd", 1, "ab", false, false},
		{"abcd", 2, "xab", false, false},
		{"aaaa", 2, "aa", true, true},
		{"aaaa", 3, "aa", true, true},
		{"", 0, "a", false, false},
		{"", 1, "a", false, false},
		{"@[`{", 2, "`{", false, false},
		{"@[`{", 4, "@[", false, false},
	} {
		if got := letter.At(false, []byte(c.text), c.place, []byte(c.word)); got != c.plain {
			t.Errorf("%q at %d of %q, without fold: %t", c.word, c.place, c.text, got)
		}
		if got := letter.At(true, []byte(c.text), c.place, []byte(c.word)); got != c.folding {
			t.Errorf("%q at %d of %q, with fold: %t", c.word, c.place, c.text, got)
		}
	}
}

func TestAtGoesByTheWords(t *testing.T) {
	for _, fold := range both {
		for _, text := range texts(4) {
			for _, word := range texts(5) {
				for place := -2; place < 8; place++ {
					got, want := letter.At(fold, []byte(text), place, []byte(word)), atByWords(fold, text, place, word)
					if got != want {
						t.Fatalf("%q at %d of %q, fold %t: %t", word, place, text, fold, got)
					}
				}
			}
		}
	}
}

func TestAtOfAnEmptyWord(t *testing.T) {
	for _, fold := range both {
		for _, word := range [][]byte{nil, {}} {
			for _, text := range [][]byte{nil, {}, []byte("a"), []byte("ushers")} {
				for place := -3; place < 10; place++ {
					if got, want := letter.At(fold, text, place, word), place >= 0 && place <= len(text); got != want {
						t.Errorf("%v at %d of %q, fold %t: %t", word, place, text, fold, got)
					}
				}
			}
		}
	}
}

// TestAtFarAway: at places far from the text nothing stands, and nothing panics (R1).
func TestAtFarAway(t *testing.T) {
	room := []byte("ushers")
	for _, place := range []int{math.MinInt, math.MinInt + 1, -1 << 32, -7, -6, -1, 7, 1 << 32, 1<<32 + 3, math.MaxInt - 1, math.MaxInt} {
		for _, fold := range both {
			for _, word := range []string{"", "s", "he", "ushers", "ushers and she"} {
				if letter.At(fold, room, place, []byte(word)) || letter.At(fold, nil, place, []byte(word)) {
					t.Errorf("%q at %d: yes", word, place)
				}
			}
		}
	}
	if letter.At(false, room[:3], 4, []byte("he")) {
		t.Error("a word stands in the room behind the text")
	}
}

func TestWhich(t *testing.T) {
	for _, c := range []struct {
		text           string
		words          []string
		plain, folding int
	}{
		{"he", []string{"he", "she", "her"}, 0, 0},
		{"she", []string{"he", "she", "her"}, 1, 1},
		{"her", []string{"he", "she", "her"}, 2, 2},
		{"hers", []string{"he", "she", "her"}, -1, -1},
		{"h", []string{"he", "she", "her"}, -1, -1},
		{"he", []string{"she", "he", "he", "he"}, 1, 1},
		{"He", []string{"she", "he", "He", "HE"}, 2, 1},
		{"HE", []string{"she", "he", "He"}, -1, 1},
		{"", []string{"he", "", ""}, 1, 1},
		{"", []string{"he", "she"}, -1, -1},
		{"he", []string{""}, -1, -1},
		{"", nil, -1, -1},
		{"he", nil, -1, -1},
		{"@", []string{"`", "@"}, 1, 1},
	} {
		words := ofStrings(c.words)
		if got := letter.Which(false, []byte(c.text), words...); got != c.plain {
			t.Errorf("Which(%q of %q), without fold: %d and not %d", c.text, c.words, got, c.plain)
		}
		if got := letter.Which(true, []byte(c.text), words...); got != c.folding {
			t.Errorf("Which(%q of %q), with fold: %d and not %d", c.text, c.words, got, c.folding)
		}
	}
}

func TestWhichOfNothing(t *testing.T) {
	he := []byte("he")
	for _, fold := range both {
		if got := letter.Which(fold, he); got != -1 {
			t.Errorf("of no words: %d", got)
		}
		if got := letter.Which(fold, nil); got != -1 {
			t.Errorf("nothing of no words: %d", got)
		}
		for _, none := range [][]byte{nil, {}} {
			if got := letter.Which(fold, none, he, nil, none); got != 1 {
				t.Errorf("%v behind a word: %d", none, got)
			}
			if got := letter.Which(fold, none, he, []byte{}, none); got != 1 {
				t.Errorf("%v behind a word: %d", none, got)
			}
			if got := letter.Which(fold, he, none, nil, he); got != 2 {
				t.Errorf("a word behind %v: %d", none, got)
			}
		}
	}
}

func TestWhichGoesByTheWords(t *testing.T) {
	words := texts(3)
	slices.Reverse(words)
	words = append(words, words...)
	for _, fold := range both {
		for _, text := range texts(4) {
			want := slices.IndexFunc(words, func(w string) bool { return sameByWords(fold, text, w) })
			if got := letter.Which(fold, []byte(text), ofStrings(words)...); got != want {
				t.Errorf("%q, fold %t: %d and not %d", text, fold, got, want)
			}
		}
	}
}

func TestJoin(t *testing.T) {
	for _, c := range []struct {
		texts []string
		want  string
	}{
		{nil, ""},
		{[]string{""}, ""},
		{[]string{"", "", ""}, ""},
		{[]string{"he"}, "he"},
		{[]string{"us", "hers"}, "ushers"},
		{[]string{"hers", "us"}, "hersus"},
		{[]string{"", "us", "", "h", "ers", ""}, "ushers"},
		{[]string{"He", "hE", "HE"}, "HehEHE"},
		{[]string{"\x00", "\xff\x00", "A"}, "\x00\xff\x00A"},
		{[]string{strings.Repeat("x", 3000), strings.Repeat("y", 3000)}, strings.Repeat("x", 3000) + strings.Repeat("y", 3000)},
	} {
		if got := letter.Join(ofStrings(c.texts)...); string(got) != c.want {
			t.Errorf("Join(%q): %q and not %q", c.texts, got, c.want)
		}
	}
	if got := letter.Join(nil, []byte("he"), nil, []byte{}, []byte("r"), nil); string(got) != "her" {
		t.Errorf("with nothing between: %q", got)
	}
	if got := letter.Join(nil, nil); len(got) != 0 {
		t.Errorf("nothing and nothing: %q", got)
	}
}

// TestBothStandInThemJoined: a text stands joined with others where it was put (P3.3).
func TestBothStandInThemJoined(t *testing.T) {
	for _, fold := range both {
		for _, a := range texts(3) {
			for _, b := range texts(3) {
				joined := letter.Join([]byte(a), []byte(b))
				if !letter.At(fold, joined, len(a), []byte(a)) || !letter.At(fold, joined, len(a)+len(b), []byte(b)) {
					t.Fatalf("%q and %q, fold %t: they do not stand in %q", a, b, fold, joined)
				}
			}
		}
	}
}

// TestMemory: what is handed in stays as it is, spare room included, and what is told is new (R4).
func TestMemory(t *testing.T) {
	room := []byte("HE shE-spare")
	text, before := room[:6], string(room)
	for range 2 {
		folded := letter.Folded(text)
		if string(folded) != "he she" {
			t.Errorf("folded: %q", folded)
		}
		spoil(folded)
		for _, joined := range [][]byte{
			letter.Join(text), letter.Join(text, nil), letter.Join(nil, text), letter.Join(text[:2], text[2:]), letter.Join(text[:0]),
		} {
			if len(joined) > 0 && string(joined) != "HE shE" {
				t.Errorf("joined: %q", joined)
			}
			spoil(joined)
		}
		spoil(letter.Folded(text[:0]))
		if string(room) != before {
			t.Fatalf("what was handed in is now %q", room)
		}
	}

	texts := [][]byte{text[:2], nil, text[3:], text[:1]}
	kept := slices.Clone(texts)
	for _, fold := range both {
		letter.Same(fold, text[:2], text[3:5])
		letter.At(fold, text, 5, text[:2])
		letter.Which(fold, []byte("e"), texts[:3]...)
	}
	spoil(letter.Join(texts[:3]...))
	if string(room) != before || !slices.EqualFunc(texts, kept, bytes.Equal) || texts[1] != nil {
		t.Errorf("what was handed in is now %q, of %q", texts, room)
	}
}

// TestToldAfresh: what was handed in may change: what was told of it stays.
func TestToldAfresh(t *testing.T) {
	a, b := []byte("uSH"), []byte("ers")
	folded, joined := letter.Folded(a), letter.Join(a, b)
	clear(a)
	clear(b)
	if string(folded) != "ush" || string(joined) != "uSHers" {
		t.Errorf("now they are %q and %q", folded, joined)
	}
}

// spoil writes over what was told and the room behind it.
func spoil(b []byte) {
	b = append(b, "more"...)
	clear(b[:cap(b)])
}

func ofStrings(texts []string) [][]byte {
	var all [][]byte
	for _, s := range texts {
		all = append(all, []byte(s))
	}
	return all
}

// foldByWords folds by the chapter's words.
func foldByWords(c byte) byte {
	if i := strings.IndexByte("ABCDEFGHIJKLMNOPQRSTUVWXYZ", c); i >= 0 {
		return "abcdefghijklmnopqrstuvwxyz"[i]
	}
	return c
}

func sameByWords(fold bool, a, b string) bool {
	if len(a) != len(b) {
		return false
	}
	for i := range len(a) {
		if a[i] != b[i] && !(fold && foldByWords(a[i]) == foldByWords(b[i])) {
			return false
		}
	}
	return true
}

func atByWords(fold bool, text string, place int, word string) bool {
	return place >= len(word) && place <= len(text) && sameByWords(fold, text[place-len(word):place], word)
}
