package digit_test

import (
	"bytes"
	"math"
	"slices"
	"testing"

	"teasel/api"
	"teasel/digit"
)

// pairs are numbers and their bytes, at either end of each length.
var pairs = []struct {
	n int
	b string
}{
	{0, "\x00"},
	{1, "\x01"},
	{5, "\x05"},
	{127, "\x7f"},
	{128, "\x80\x01"},
	{300, "\xac\x02"},
	{16383, "\xff\x7f"},
	{16384, "\x80\x80\x01"},
	{2097151, "\xff\xff\x7f"},
	{2097152, "\x80\x80\x80\x01"},
	{268435455, "\xff\xff\xff\x7f"},
	{268435456, "\x80\x80\x80\x80\x01"},
	{api.MaxNumber - 1, "\xfe\xff\xff\xff\x07"},
	{api.MaxNumber, "\xff\xff\xff\xff\x07"},
}

// untold are numbers that may not be told.
var untold = []int{-1, -128, math.MinInt, api.MaxNumber + 1, 1 << 32, 1<<32 + 5, math.MaxInt}

// wrong are bytes that begin with no number.
var wrong = []struct {
	name, b string
	e       api.Errno
}{
	{"no bytes", "", api.ErrShort},
	{"one goes on", "\x80", api.ErrShort},
	{"two go on", "\xff\xff", api.ErrShort},
	{"four go on", "\x81\x82\x83\x84", api.ErrShort},
	{"five go on, the sixth is not there", "\x80\x80\x80\x80\x80", api.ErrShort},
	{"five go on with all bits that may be", "\xff\xff\xff\xff\x87", api.ErrShort},
	{"a second of 0", "\x80\x00", api.ErrForm},
	{"a second of 0 behind bits", "\xff\x00", api.ErrForm},
	{"a second of 0, and more", "\x80\x00\x05", api.ErrForm},
	{"a third of 0", "\xff\x80\x00", api.ErrForm},
	{"a fifth of 0", "\x80\x80\x80\x80\x00", api.ErrForm},
	{"a fifth with a bit too many", "\xff\xff\xff\xff\x08", api.ErrGreat},
	{"the least that is too great", "\x80\x80\x80\x80\x08", api.ErrGreat},
	{"a fifth that is too great and goes on", "\x80\x80\x80\x80\x88", api.ErrGreat},
	{"all go on", "\xff\xff\xff\xff\xff\xff\xff", api.ErrGreat},
	{"a sixth", "\x80\x80\x80\x80\x80\x01", api.ErrGreat},
	{"a sixth of 0", "\x80\x80\x80\x80\x80\x00", api.ErrGreat},
	{"a sixth that goes on", "\x80\x80\x80\x80\x80\x80", api.ErrGreat},
	{"a sixth behind a fifth with bits", "\xff\xff\xff\xff\x87\x00", api.ErrGreat},
}

func TestPutTellsBytes(t *testing.T) {
	for _, p := range pairs {
		if b, e := digit.Put(p.n); string(b) != p.b || e != api.OK {
			t.Errorf("Put(%d): %q, %d", p.n, b, e)
		}
		if many := digit.Size(p.n); many != len(p.b) {
			t.Errorf("Size(%d): %d", p.n, many)
		}
	}
}

func TestPutRefuses(t *testing.T) {
	for _, n := range untold {
		if b, e := digit.Put(n); len(b) != 0 || e != api.ErrArg {
			t.Errorf("Put(%d): %q, %d", n, b, e)
		}
		for _, l := range [][]int{{n}, {n, 5}, {5, n}, {5, n, 7}, {n, n}} {
			if b, e := digit.Puts(l...); len(b) != 0 || e != api.ErrArg {
				t.Errorf("Puts(%v): %q, %d", l, b, e)
			}
			if many := digit.Size(l...); many != 0 {
				t.Errorf("Size(%v): %d", l, many)
			}
		}
	}
}

func TestPutsTellsAllInOrder(t *testing.T) {
	var l []int
	var want string
	for _, p := range slices.Backward(pairs) {
		l, want = append(l, p.n), want+p.b
	}
	if b, e := digit.Puts(l...); string(b) != want || e != api.OK || digit.Size(l...) != len(want) {
		t.Errorf("Puts(%v): %q, %d, of size %d", l, b, e, digit.Size(l...))
	}
	if b, e := digit.Puts(); len(b) != 0 || e != api.OK || digit.Size() != 0 {
		t.Errorf("no numbers: %q, %d, of size %d", b, e, digit.Size())
	}
}

func TestTakeTellsNumberAndRest(t *testing.T) {
	for _, p := range pairs {
		for _, behind := range []string{"", "\x00", "\x80", "x", "\xff\xff\xff\xff\xff\xff"} {
			n, rest, e := digit.Take([]byte(p.b + behind))
			if n != p.n || string(rest) != behind || e != api.OK {
				t.Errorf("Take(%q): %d, %q, %d", p.b+behind, n, rest, e)
			}
		}
	}
}

func TestTakeRefuses(t *testing.T) {
	for _, w := range wrong {
		if n, rest, e := digit.Take([]byte(w.b)); n != 0 || len(rest) != 0 || e != w.e {
			t.Errorf("%s: %d, %q, %d and not %d", w.name, n, rest, e, w.e)
		}
	}
	if n, rest, e := digit.Take(nil); n != 0 || len(rest) != 0 || e != api.ErrShort {
		t.Errorf("nil: %d, %q, %d", n, rest, e)
	}
}

func TestTakesTellsSoMany(t *testing.T) {
	b := []byte("\x05\xac\x02\x00\xff\xff\xff\xff\x07\x80\x00")
	all := []int{5, 300, 0, api.MaxNumber}
	ends := []int{0, 1, 3, 4, 9}
	for many, end := range ends {
		l, rest, e := digit.Takes(b, many)
		if !slices.Equal(l, all[:many]) || string(rest) != string(b[end:]) || e != api.OK {
			t.Errorf("Takes of %d: %v, %q, %d", many, l, rest, e)
		}
	}
	if l, rest, e := digit.Takes(nil, 0); len(l) != 0 || len(rest) != 0 || e != api.OK {
		t.Errorf("none of none: %v, %q, %d", l, rest, e)
	}
}

func TestTakesRefuses(t *testing.T) {
	for _, many := range []int{-1, -5, math.MinInt} {
		for _, b := range []string{"", "\x05", "\x80\x00"} {
			if l, rest, e := digit.Takes([]byte(b), many); len(l) != 0 || len(rest) != 0 || e != api.ErrArg {
				t.Errorf("Takes(%q, %d): %v, %q, %d", b, many, l, rest, e)
			}
		}
	}
	for _, w := range wrong {
		for many := 3; many <= 4; many++ {
			if l, rest, e := digit.Takes([]byte("\x05\xac\x02"+w.b), many); len(l) != 0 || len(rest) != 0 || e != w.e {
				t.Errorf("%s, of %d: %v, %q, %d", w.name, many, l, rest, e)
			}
		}
		if l, rest, e := digit.Takes([]byte("\x05\xac\x02"+w.b), 2); len(l) != 2 || string(rest) != w.b || e != api.OK {
			t.Errorf("ahead of %s: %v, %q, %d", w.name, l, rest, e)
		}
	}
	if l, rest, e := digit.Takes([]byte("\x05\x06"), math.MaxInt); len(l) != 0 || len(rest) != 0 || e != api.ErrShort {
		t.Errorf("more than there are: %v, %q, %d", l, rest, e)
	}
	if _, _, e := digit.Takes([]byte("\x05\x80\x00\x80\x80\x80\x80\x08"), 3); e != api.ErrForm {
		t.Errorf("the second of two errors: %d", e)
	}
}

func TestWhatIsPutIsTaken(t *testing.T) {
	var l []int
	for shift := range 31 {
		for d := -2; d <= 2; d++ {
			if n := 1<<shift + d; n >= 0 {
				l = append(l, n)
			}
		}
	}
	for n := 0; n <= api.MaxNumber; n += 9999991 {
		l = append(l, n, api.MaxNumber-n)
	}
	for _, n := range l {
		b, e := digit.Put(n)
		got, rest, f := digit.Take(append(b, 0x80, 0))
		if e != api.OK || f != api.OK || got != n || string(rest) != "\x80\x00" {
			t.Fatalf("%d: put %q, %d; taken %d, %q, %d", n, b, e, got, rest, f)
		}
	}
	b, e := digit.Puts(l...)
	got, rest, f := digit.Takes(append(b, "behind"...), len(l))
	if e != api.OK || f != api.OK || !slices.Equal(got, l) || string(rest) != "behind" {
		t.Errorf("all: %d, %d, %q", e, f, rest)
	}
}

// TestWhatIsTakenHasJustThoseBytes tries all rows of up to seven bytes, of such bytes as matter, against the chapter's words.
func TestWhatIsTakenHasJustThoseBytes(t *testing.T) {
	for row := range rows([]byte{0, 1, 7, 8, 0x80, 0x87, 0xff}, 7) {
		n, rest, e := digit.Take(row)
		wantN, wantRest, wantE := byWords(row)
		if n != wantN || !bytes.Equal(rest, wantRest) || e != wantE {
			t.Fatalf("Take(%q): %d, %q, %d and not %d, %q, %d", row, n, rest, e, wantN, wantRest, wantE)
		}
		if e != api.OK {
			continue
		}
		b, f := digit.Put(n)
		if f != api.OK || !bytes.Equal(append(b, rest...), row) {
			t.Fatalf("Take(%q) tells %d, whose bytes are %q, %d", row, n, b, f)
		}
	}
}

// rows yields all rows of these bytes, up to a length.
func rows(of []byte, longest int) func(yield func([]byte) bool) {
	return func(yield func([]byte) bool) {
		var more func(row []byte) bool
		more = func(row []byte) bool {
			if !yield(row) {
				return false
			}
			if len(row) == longest {
				return true
			}
			for _, c := range of {
				if !more(append(slices.Clone(row), c)) {
					return false
				}
			}
			return true
		}
		more(nil)
	}
}

// byWords takes a number by P1.2, byte by byte, word by word.
func byWords(b []byte) (int, []byte, api.Errno) {
	n, unit := 0, 1
	for i := 0; ; i++ {
		if i >= len(b) {
			return 0, nil, api.ErrShort
		}
		c := int(b[i])
		if n += c % 128 * unit; i == 5 || n > api.MaxNumber {
			return 0, nil, api.ErrGreat
		}
		if c == 0 && i != 0 {
			return 0, nil, api.ErrForm
		}
		if c < 128 {
			return n, b[i+1:], api.OK
		}
		unit *= 128
	}
}

// TestMemory: what is handed in stays as it is, spare room included, and what is told is new (R4).
func TestMemory(t *testing.T) {
	room := []byte("\x05\xac\x02xyz-spare")
	b := room[:6]
	before := string(room)
	_, first, _ := digit.Take(b)
	_, second, _ := digit.Takes(b, 1)
	_, third, _ := digit.Takes(b, 0)
	for i, rest := range [][]byte{first, second, third} {
		clear(append(rest, "more"...))
		clear(rest)
		if string(room) != before {
			t.Fatalf("%d: what was handed in is now %q", i, room)
		}
	}
	if _, again, _ := digit.Take(b); string(again) != "\xac\x02xyz" {
		t.Errorf("taken again: %q", again)
	}

	l := []int{5, 300, 7}
	one, _ := digit.Puts(l[:2]...)
	two, _ := digit.Puts(l[:2]...)
	clear(one)
	if string(two) != "\x05\xac\x02" || !slices.Equal(l, []int{5, 300, 7}) {
		t.Errorf("put again: %q, of %v", two, l)
	}
	zero, _ := digit.Put(0)
	zero[0] = 9
	if zero, _ = digit.Put(0); string(zero) != "\x00" {
		t.Errorf("0 put again: %q", zero)
	}
	k, _, _ := digit.Takes(b, 2)
	clear(k)
	if k, _, _ = digit.Takes(b, 2); !slices.Equal(k, []int{5, 300}) {
		t.Errorf("numbers taken again: %v", k)
	}
}
