package nat

import (
	"math/bits"

	"tithing/api"
)

// trimmed returns a without zeros in front. It shares the memory of a, so an argument that is trimmed is no result.
func trimmed(a api.Nat) api.Nat {
	for a != "" && a[0] == 0 {
		a = a[1:]
	}
	return a
}

// word returns a as a machine word, and whether it fits into one.
func word(a api.Nat) (uint64, bool) {
	a = trimmed(a)
	if len(a) > 8 {
		return 0, false
	}
	return wordOf(a), true
}

// wordOf returns a, which has at most 8 bytes, as a machine word.
func wordOf(a api.Nat) uint64 {
	var w uint64
	for i := range len(a) {
		w = w<<8 | uint64(a[i])
	}
	return w
}

// words returns a and b as machine words, if both fit.
func words(a, b api.Nat) (v, w uint64, ok bool) {
	v, aFits := word(a)
	w, bFits := word(b)
	return v, w, aFits && bFits
}

// wordNat returns the right api.Nat of a machine word.
func wordNat(w uint64) api.Nat {
	var b [8]byte
	return api.Nat(appendWord(b[:0], w)[bits.LeadingZeros64(w)/8:])
}

// appendWord appends the 8 bytes of a machine word, the most significant one first.
func appendWord(b []byte, w uint64) []byte {
	return append(b, byte(w>>56), byte(w>>48), byte(w>>40), byte(w>>32), byte(w>>24), byte(w>>16), byte(w>>8), byte(w))
}
