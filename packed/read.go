package packed

import (
	"iter"

	"teasel/api"
	"teasel/digit"
)

// left is what is left of bytes that are read from their beginning on.
type left struct{ b []byte }

// none tells whether nothing is left.
func (l *left) none() bool { return len(l.b) == 0 }

// number reads a number. It hands on no more bytes than the greatest number has: all that are left, handed on for each word, would be copied each time.
func (l *left) number() (int, api.Errno) {
	n, _, e := digit.Take(l.b[:min(len(l.b), digit.Size(api.MaxNumber))])
	if e != api.OK {
		return 0, api.ErrForm
	}
	l.b = l.b[digit.Size(n):]
	return n, api.OK
}

// text reads so many bytes, and tells them in memory of their own.
func (l *left) text(many int) ([]byte, api.Errno) {
	if many > len(l.b) {
		return nil, api.ErrForm
	}
	t := append([]byte(nil), l.b[:many]...)
	l.b = l.b[many:]
	return t, api.OK
}

// reader reads words from what is left.
type reader struct{ left }

// word reads the next word.
func (r *reader) word() ([]byte, api.Errno) {
	many, e := r.number()
	if e != api.OK {
		return nil, e
	}
	return r.text(many)
}

// words goes through the next words, and is over behind the first error.
func (r *reader) words(many int) iter.Seq2[[]byte, api.Errno] {
	return func(yield func([]byte, api.Errno) bool) {
		for range many {
			w, e := r.word()
			if !yield(w, e) || e != api.OK {
				return
			}
		}
	}
}

// list reads all words there are; it makes no room ahead, since their number may be greater than what is left.
func (r *reader) list() ([][]byte, api.Errno) {
	many, e := r.number()
	if e != api.OK {
		return nil, e
	}
	var l [][]byte
	for w, e := range r.words(many) {
		if e != api.OK {
			return nil, e
		}
		l = append(l, w)
	}
	if !r.none() {
		return nil, api.ErrRest
	}
	return l, api.OK
}
