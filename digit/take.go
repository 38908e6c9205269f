package digit

import (
	"iter"

	"teasel/api"
)

// walk goes through bytes, each of them once.
type walk struct {
	b  []byte
	at int // how many were passed
}

// left goes on from the first byte that was not passed: a later walk begins where this one is broken off.
func (w *walk) left() iter.Seq[byte] {
	return func(yield func(byte) bool) {
		for w.at < len(w.b) {
			w.at++
			if !yield(w.b[w.at-1]) {
				return
			}
		}
	}
}

// rest tells the bytes that were not passed, in memory of their own.
func (w *walk) rest() []byte { return append([]byte(nil), w.b[w.at:]...) }

// taker takes numbers from the bytes that it goes through.
type taker struct{ walk }

// number takes the next number.
func (t *taker) number() (int, api.Errno) {
	n, passed := 0, 0
	for c := range t.left() {
		if passed == most {
			return 0, api.ErrGreat
		}
		n |= int(c&^goesOn) << (width * passed)
		if n > api.MaxNumber {
			return 0, api.ErrGreat
		}
		if c == 0 && passed > 0 {
			return 0, api.ErrForm
		}
		if c < goesOn {
			return n, api.OK
		}
		passed++
	}
	return 0, api.ErrShort
}

// numbers takes the next ones; it makes no room ahead, since many may be greater than what is there.
func (t *taker) numbers(many int) ([]int, api.Errno) {
	var l []int
	for range many {
		n, e := t.number()
		if e != api.OK {
			return nil, e
		}
		l = append(l, n)
	}
	return l, api.OK
}
