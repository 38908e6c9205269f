package sum

import (
	"iter"

	"teasel/api"
)

const modulus = 65521 // the greatest prime that two bytes can tell

func inRange(n int) bool { return 0 <= n && n < modulus }

// tally is what is summed: a sum that may be, and stays one.
type tally struct{ api.Sum }

// add lets a byte come.
func (t *tally) add(c byte) {
	t.A = (t.A + int(c)) % modulus
	t.B = (t.B + t.A) % modulus
}

// behind lets n bytes come, of which nothing but their sum b is known.
func (t *tally) behind(b api.Sum, n int) {
	// b began with an A of 1 where t has its own A, so that much is missing in b's B of each of the n bytes; the modulus keeps it from falling below 0.
	missing := t.A - 1 + modulus
	t.A = (missing + b.A) % modulus
	t.B = (t.B + b.B + n*missing) % modulus
}

// all goes through the bytes of all parts, one behind the other.
func all(parts ...[]byte) iter.Seq[byte] {
	return func(yield func(byte) bool) {
		for _, part := range parts {
			for _, c := range part {
				if !yield(c) {
					return
				}
			}
		}
	}
}
