package letter

import "iter"

// plain is a text that is held against others as it is.
type plain struct{ text []byte }

// folding is one whose letters may be folded too; how it is gone through is plain's.
type folding struct{ plain }

// alike tells whether two bytes are the same as they are.
func (plain) alike(a, b byte) bool { return a == b }

// alike tells whether two bytes are the same folded.
func (f folding) alike(a, b byte) bool { return f.plain.alike(Fold(a), Fold(b)) }

// judge is what tells whether two bytes are the same.
func (f folding) judge(fold bool) func(a, b byte) bool {
	if fold {
		return f.alike
	}
	return f.plain.alike
}

// same tells whether another text has as many bytes, each of them alike.
func (p plain) same(other []byte, alike func(a, b byte) bool) bool {
	if len(p.text) != len(other) {
		return false
	}
	for a, b := range p.beside(other) {
		if !alike(a, b) {
			return false
		}
	}
	return true
}

// beside goes through the bytes of two texts of one length.
func (p plain) beside(other []byte) iter.Seq2[byte, byte] {
	return func(yield func(byte, byte) bool) {
		for i, a := range p.text {
			if !yield(a, other[i]) {
				return
			}
		}
	}
}

// all goes through the bytes of all texts, one text behind the other.
func all(texts ...[]byte) iter.Seq[byte] {
	return func(yield func(byte) bool) {
		for _, t := range texts {
			for _, c := range t {
				if !yield(c) {
					return
				}
			}
		}
	}
}
