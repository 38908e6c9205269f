package sum_test

import (
	"bytes"
	"hash/adler32"
	"math"
	"math/big"
	"slices"
	"strings"
	"testing"

	"teasel/api"
	"teasel/sum"
)

const modulus = 65521

// sums are sums that may be, at the edges and between them.
var sums = []api.Sum{
	{A: 1}, {}, {B: 1}, {A: 1, B: 1}, {A: 2, B: 300},
	{A: 6, B: 6}, {A: 13, B: 19}, {A: 1, B: 65520}, {A: 65520, B: 1},
	{A: 65520}, {B: 65520}, {A: 65519, B: 65519}, {A: 65520, B: 65520}, {A: 40000, B: 50000},
}

// wrong are sums that may not be.
var wrong = []api.Sum{
	{A: 65521}, {B: 65521}, {A: 65521, B: 65521}, {A: 1, B: 65521}, {A: 65521, B: 1},
	{A: 65520, B: 65521}, {A: 65521, B: 65520}, {A: 65536}, {B: 65536}, {A: 1, B: 1 << 32}, {A: 1<<32 + 1},
	{A: -1}, {B: -1}, {A: -1, B: -1}, {A: 1, B: -1}, {A: -1, B: 1}, {A: -65521, B: -65521},
	{A: math.MaxInt, B: math.MaxInt}, {A: math.MinInt, B: math.MinInt}, {A: 1, B: math.MinInt}, {A: math.MinInt}, {A: 1, B: math.MaxInt},
}

// wrongMany are numbers of bytes that may not be.
var wrongMany = []int{-1, -65521, math.MinInt, api.MaxNumber + 1, 1 << 32, math.MaxInt}

// texts are bytes to be summed.
func texts() []string {
	return []string{
		"", "\x00", "\x01", "\x05", "\x05\x07", "\x07\x05", "\xff", "\xff\xff", "\x00\x00\x00", "ushers", "Wikipedia",
		strings.Repeat("\xff", 255), strings.Repeat("\xff", 256), strings.Repeat("\xff", 257), strings.Repeat("\xff", 258),
		strings.Repeat("\xff", 5552), strings.Repeat("\xff", 5553), strings.Repeat("\xff", 70000),
		strings.Repeat("\x00", 65521), strings.Repeat("he and she ", 7000),
	}
}

func TestNewIsTheSumAtFirst(t *testing.T) {
	if s := sum.New(); s != (api.Sum{A: 1, B: 0}) || !sum.Right(s) || sum.Value(s) != 1 {
		t.Errorf("New: %v, %t, %d", s, sum.Right(s), sum.Value(s))
	}
}

func TestRight(t *testing.T) {
	for _, s := range sums {
		if !sum.Right(s) {
			t.Errorf("%v: no", s)
		}
	}
	for _, s := range wrong {
		if sum.Right(s) {
			t.Errorf("%v: yes", s)
		}
	}
}

func TestFeedByHand(t *testing.T) {
	for _, c := range []struct {
		s    api.Sum
		b    string
		want api.Sum
	}{
		{api.Sum{A: 1}, "", api.Sum{A: 1}},
		{api.Sum{A: 1}, "\x00", api.Sum{A: 1, B: 1}},
		{api.Sum{A: 1}, "\x05", api.Sum{A: 6, B: 6}},
		{api.Sum{A: 1}, "\x05\x07", api.Sum{A: 13, B: 19}},
		{api.Sum{A: 1}, "\xff\xff", api.Sum{A: 511, B: 767}},
		{api.Sum{}, "", api.Sum{}},
		{api.Sum{}, "\x00\x00", api.Sum{}},
		{api.Sum{}, "\x05\x07", api.Sum{A: 12, B: 17}},
		{api.Sum{A: 65520}, "\x00", api.Sum{A: 65520, B: 65520}},
		{api.Sum{A: 65520}, "\x01", api.Sum{}},
		{api.Sum{A: 65520, B: 65520}, "", api.Sum{A: 65520, B: 65520}},
		{api.Sum{A: 65520, B: 65520}, "\x00", api.Sum{A: 65520, B: 65519}},
		{api.Sum{A: 65520, B: 65520}, "\x01", api.Sum{B: 65520}},
		{api.Sum{A: 65520, B: 65520}, "\xff\xff", api.Sum{A: 509, B: 762}},
		{api.Sum{B: 65520}, "\x01", api.Sum{A: 1}},
	} {
		if got := sum.Feed(c.s, []byte(c.b)); got != c.want {
			t.Errorf("Feed(%v, %q): %v and not %v", c.s, c.b, got, c.want)
		}
	}
}

func TestFeedGoesByTheWords(t *testing.T) {
	for _, s := range sums {
		for _, b := range texts() {
			if got, want := sum.Feed(s, []byte(b)), byWords(s, b); got != want || !sum.Right(got) {
				t.Errorf("Feed(%v, %d bytes): %v and not %v", s, len(b), got, want)
			}
		}
	}
}

func TestFeedLeavesWhatMayNotBe(t *testing.T) {
	for _, s := range wrong {
		for _, parts := range [][][]byte{nil, {nil}, {{0}}, {[]byte("he"), nil, []byte("she")}} {
			if got := sum.Feed(s, parts...); got != s {
				t.Errorf("Feed(%v, %q): %v", s, parts, got)
			}
		}
	}
}

func TestFeedOfNothing(t *testing.T) {
	for _, s := range sums {
		for _, parts := range [][][]byte{nil, {}, {nil}, {{}}, {nil, {}, nil}} {
			if got := sum.Feed(s, parts...); got != s {
				t.Errorf("Feed(%v, %v): %v", s, parts, got)
			}
		}
	}
}

func TestValue(t *testing.T) {
	for _, s := range sums {
		if got, want := sum.Value(s), uint32(s.B*65536+s.A); got != want {
			t.Errorf("Value(%v): %d and not %d", s, got, want)
		}
	}
	if got := sum.Value(api.Sum{A: 65520, B: 65520}); got != 4293984240 {
		t.Errorf("the greatest value: %d", got)
	}
	for _, s := range wrong {
		if got := sum.Value(s); got != 0 {
			t.Errorf("Value(%v): %d", s, got)
		}
	}
}

func TestOf(t *testing.T) {
	for _, c := range []struct {
		b    string
		want uint32
	}{
		{"", 1},
		{"\x05", 6*65536 + 6},
		{"\x05\x07", 19*65536 + 13},
		{"\xff", 256*65536 + 256},
		{"Wikipedia", 0x11e60398},
	} {
		if got := sum.Of([]byte(c.b)); got != c.want {
			t.Errorf("Of(%q): %d and not %d", c.b, got, c.want)
		}
	}
	for _, b := range texts() {
		got := sum.Of([]byte(b))
		if got != adler32.Checksum([]byte(b)) || got != sum.Value(sum.Feed(sum.New(), []byte(b))) {
			t.Errorf("Of(%d bytes): %d", len(b), got)
		}
	}
	for _, parts := range [][][]byte{nil, {}, {nil}, {nil, {}, nil}} {
		if got := sum.Of(parts...); got != 1 {
			t.Errorf("Of(%v): %d", parts, got)
		}
	}
}

func TestPartsAreSummedAsOne(t *testing.T) {
	b := []byte("ushers, \x00\x00 and \xff\xff\xff")
	for i := range len(b) + 1 {
		for j := i; j <= len(b); j++ {
			parts := [][]byte{nil, b[:i], nil, b[i:j], {}, b[j:], nil}
			for _, s := range sums {
				want := sum.Feed(s, b)
				if got := sum.Feed(s, parts...); got != want {
					t.Fatalf("%v fed with %q: %v and not %v", s, parts, got, want)
				}
				if got := sum.Feed(sum.Feed(sum.Feed(s, b[:i]), b[i:j]), b[j:]); got != want {
					t.Fatalf("%v fed part by part with %q: %v and not %v", s, parts, got, want)
				}
			}
			if got := sum.Of(parts...); got != sum.Of(b) {
				t.Fatalf("Of(%q): %d", parts, got)
			}
		}
	}
}

func TestPartsComeInOrder(t *testing.T) {
	he, she := []byte("he"), []byte("she")
	if sum.Of(he, she) == sum.Of(she, he) || sum.Of(he, she) != sum.Of([]byte("heshe")) {
		t.Errorf("he, she: %d; she, he: %d", sum.Of(he, she), sum.Of(she, he))
	}
}

func TestJoinByHand(t *testing.T) {
	for _, c := range []struct {
		a, b api.Sum
		n    int
		want api.Sum
	}{
		{api.Sum{A: 1}, api.Sum{A: 1}, 0, api.Sum{A: 1}},
		{api.Sum{A: 6, B: 6}, api.Sum{A: 8, B: 8}, 1, api.Sum{A: 13, B: 19}},
		{api.Sum{A: 6, B: 6}, api.Sum{A: 1}, 0, api.Sum{A: 6, B: 6}},
		{api.Sum{A: 1}, api.Sum{A: 13, B: 19}, 2, api.Sum{A: 13, B: 19}},
		{api.Sum{}, api.Sum{}, 0, api.Sum{A: 65520}},
		{api.Sum{}, api.Sum{}, 1, api.Sum{A: 65520, B: 65520}},
		{api.Sum{}, api.Sum{}, 65520, api.Sum{A: 65520, B: 1}},
		{api.Sum{}, api.Sum{}, 65521, api.Sum{A: 65520}},
		{api.Sum{}, api.Sum{A: 1}, 5, api.Sum{B: 65516}},
		{api.Sum{A: 1}, api.Sum{}, 5, api.Sum{}},
		{api.Sum{}, api.Sum{}, api.MaxNumber, api.Sum{A: 65520, B: 32649}},
		{api.Sum{A: 2}, api.Sum{A: 1}, api.MaxNumber, api.Sum{A: 2, B: 32872}},
		{api.Sum{A: 65520, B: 65520}, api.Sum{A: 65520, B: 65520}, api.MaxNumber, api.Sum{A: 65518, B: 65296}},
	} {
		if got, e := sum.Join(c.a, c.b, c.n); got != c.want || e != api.OK {
			t.Errorf("Join(%v, %v, %d): %v, %d and not %v", c.a, c.b, c.n, got, e, c.want)
		}
	}
}

func TestJoinGoesByTheWords(t *testing.T) {
	many := []int{0, 1, 2, 255, 65519, 65520, 65521, 65522, 131042, 1 << 20, 1 << 30, api.MaxNumber - 1, api.MaxNumber}
	for _, a := range sums {
		for _, b := range sums {
			for _, n := range many {
				if got, e := sum.Join(a, b, n); got != joinedByWords(a, b, n) || e != api.OK {
					t.Fatalf("Join(%v, %v, %d): %v, %d and not %v", a, b, n, got, e, joinedByWords(a, b, n))
				}
			}
		}
	}
}

func TestJoinIsAFeedOfBoth(t *testing.T) {
	for _, first := range texts() {
		for _, then := range texts() {
			a, b := sum.Feed(sum.New(), []byte(first)), sum.Feed(sum.New(), []byte(then))
			want := sum.Feed(a, []byte(then))
			if got, e := sum.Join(a, b, len(then)); got != want || e != api.OK {
				t.Fatalf("of %d bytes and %d: %v, %d and not %v", len(first), len(then), got, e, want)
			}
		}
	}
}

func TestJoinRefuses(t *testing.T) {
	refused := func(a, b api.Sum, n int) {
		t.Helper()
		if got, e := sum.Join(a, b, n); got != (api.Sum{}) || e != api.ErrArg {
			t.Errorf("Join(%v, %v, %d): %v, %d", a, b, n, got, e)
		}
	}
	for _, s := range wrong {
		for _, n := range []int{0, 1, api.MaxNumber, -1} {
			refused(s, sum.New(), n)
			refused(sum.New(), s, n)
			refused(s, s, n)
		}
	}
	for _, n := range wrongMany {
		for _, s := range sums {
			refused(s, sum.New(), n)
			refused(sum.New(), s, n)
		}
	}
}

func TestPut(t *testing.T) {
	for _, c := range []struct {
		v    uint32
		want string
	}{
		{0, "\x00\x00\x00\x00"},
		{1, "\x00\x00\x00\x01"},
		{255, "\x00\x00\x00\xff"},
		{256, "\x00\x00\x01\x00"},
		{65536, "\x00\x01\x00\x00"},
		{1 << 24, "\x01\x00\x00\x00"},
		{0x01020304, "\x01\x02\x03\x04"},
		{0xfedcba98, "\xfe\xdc\xba\x98"},
		{math.MaxUint32, "\xff\xff\xff\xff"},
	} {
		if got := sum.Put(c.v); string(got) != c.want {
			t.Errorf("Put(%d): %q and not %q", c.v, got, c.want)
		}
		for _, behind := range []string{"", "\x00", "behind", "\xff\xff\xff\xff\xff"} {
			v, rest, e := sum.Take([]byte(c.want + behind))
			if v != c.v || string(rest) != behind || e != api.OK {
				t.Errorf("Take(%q): %d, %q, %d", c.want+behind, v, rest, e)
			}
		}
	}
}

func TestTakeRefuses(t *testing.T) {
	for _, b := range [][]byte{nil, {}, {0}, {1}, {1, 2}, {0, 0, 0}, {1, 2, 3}, {255, 255, 255}} {
		if v, rest, e := sum.Take(b); v != 0 || len(rest) != 0 || e != api.ErrShort {
			t.Errorf("Take(%v): %d, %q, %d", b, v, rest, e)
		}
	}
	if v, _, e := sum.Take([]byte{1, 2, 3, 4, 5}[:3]); v != 0 || e != api.ErrShort {
		t.Errorf("three bytes with more in the room behind: %d, %d", v, e)
	}
}

func TestWhatIsPutIsTaken(t *testing.T) {
	take := func(v uint32) {
		got, rest, e := sum.Take(append(sum.Put(v), "behind"...))
		if got != v || string(rest) != "behind" || e != api.OK {
			t.Fatalf("%d: taken %d, %q, %d", v, got, rest, e)
		}
	}
	for shift := range 32 {
		take(1 << shift)
		take(1<<shift - 1)
		take(^uint32(1 << shift))
	}
	for v := range uint32(10000) {
		take(v * 429497)
	}
	for _, s := range sums {
		take(sum.Value(s))
	}
}

func TestAnotherByteMakesAnotherSum(t *testing.T) {
	for _, text := range []string{"\x00", "\xff", "ushers", "\xff\x00\xff\x00", strings.Repeat("\xff", 300)} {
		b := []byte(text)
		s, v := sum.Feed(sum.New(), b), sum.Of(b)
		for i, old := range b {
			for c := range 256 {
				b[i] = byte(c)
				other, w := sum.Feed(sum.New(), b), sum.Of(b)
				if same := b[i] == old; (other == s) != same || (w == v) != same {
					t.Fatalf("%q with %d at %d: %v, %d; it was %v, %d", text, c, i, other, w, s, v)
				}
			}
			b[i] = old
		}
	}
}

// TestMemory: what is handed in stays as it is, spare room included, and what is told is new (R4).
func TestMemory(t *testing.T) {
	room := []byte("\x01\x02\x03\x04rest-spare")
	b, before := room[:8], string(room)
	_, rest, _ := sum.Take(b)
	clear(append(rest, "more"...))
	clear(rest)
	_, none, _ := sum.Take(b[:4])
	clear(append(none, "more"...))
	if string(room) != before {
		t.Errorf("what was handed in is now %q", room)
	}
	if _, rest, _ = sum.Take(b); string(rest) != "rest" {
		t.Errorf("taken again: %q", rest)
	}

	parts := [][]byte{b[:2], nil, b[4:], b[:1]}
	kept := slices.Clone(parts)
	sum.Feed(sum.New(), parts[:3]...)
	sum.Of(parts[:3]...)
	if string(room) != before || !slices.EqualFunc(parts, kept, bytes.Equal) || parts[1] != nil {
		t.Errorf("what was handed in is now %q, of %q", parts, room)
	}

	put := sum.Put(7)
	clear(put[:cap(put)])
	put[0] = 9
	if again := sum.Put(7); string(again) != "\x00\x00\x00\x07" {
		t.Errorf("put again: %q", again)
	}
}

// byWords lets the bytes come by the chapter's words.
func byWords(s api.Sum, b string) api.Sum {
	for _, c := range []byte(b) {
		if s.A += int(c); s.A >= modulus {
			s.A -= modulus
		}
		if s.B += s.A; s.B >= modulus {
			s.B -= modulus
		}
	}
	return s
}

// joinedByWords joins by P2.2, in numbers that nothing can overflow.
func joinedByWords(a, b api.Sum, n int) api.Sum {
	whole := func(n int) *big.Int { return big.NewInt(int64(n)) }
	bothA := whole(a.A)
	bothA.Add(bothA, whole(b.A)).Sub(bothA, whole(1))
	bothB := whole(n)
	bothB.Mul(bothB, whole(a.A)).Add(bothB, whole(a.B)).Add(bothB, whole(b.B)).Sub(bothB, whole(n))
	from0 := func(x *big.Int) int { return int(x.Mod(x, whole(modulus)).Int64()) }
	return api.Sum{A: from0(bothA), B: from0(bothB)}
}
