package packed

import (
	"iter"

	"teasel/digit"
)

// parts goes through what stands between the flags and the sum: how many words there are; of each word how many bytes it has, and these.
func parts(words ...[]byte) iter.Seq[[]byte] {
	return func(yield func([]byte) bool) {
		if !yield(number(len(words))) {
			return
		}
		for _, w := range words {
			if !yield(number(len(w))) || !yield(w) {
				return
			}
		}
	}
}

// number tells the bytes of how many there are of something; no list within the limits has so many that they may not be told.
func number(n int) []byte {
	b, _ := digit.Put(n)
	return b
}
