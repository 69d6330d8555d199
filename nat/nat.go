// Package nat is layer 1: natural numbers of any size, as strings of bytes (see shared/doc/01-nat.md).
//
// Most amounts of the law fit into one machine word, and their arithmetic is what the layers above spend most of their time on: numbers of up to 8 bytes are computed as words. All others are computed as digits to the base 2^64.
package nat

import (
	"cmp"
	"math"
	"math/bits"

	"tithing/api"
)

// Of returns n, and 0 for a negative n.
func Of(n int) api.Nat {
	if n < 0 {
		return ""
	}
	return wordNat(uint64(n))
}

// Int returns a and true, if a is at most 2^63 - 1, and otherwise 0 and false.
func Int(a api.Nat) (int, bool) {
	w, ok := word(a)
	if !ok || w > math.MaxInt {
		return 0, false
	}
	return int(w), true
}

// Right reports whether a does not begin with a byte 0.
func Right(a api.Nat) bool { return a == "" || a[0] != 0 }

// Cmp returns -1, 0 or 1, if a is less than, equal to, or greater than b.
func Cmp(a, b api.Nat) int {
	a, b = trimmed(a), trimmed(b)
	if len(a) != len(b) {
		return cmp.Compare(len(a), len(b))
	}
	return cmp.Compare(a, b) // of the same length, strings are ordered as their numbers are
}

// Add returns the sum of a and b.
func Add(a, b api.Nat) api.Nat {
	if v, w, ok := words(a, b); ok {
		if sum, carry := bits.Add64(v, w, 0); carry == 0 {
			return wordNat(sum)
		}
	}
	x, y := digitsOf(a), digitsOf(b)
	if len(x) < len(y) {
		x, y = y, x
	}
	carry := add(x, y)
	return append(x, carry).natural()
}

// Sub returns a - b and true, if b is not greater than a, and otherwise 0 and false.
func Sub(a, b api.Nat) (api.Nat, bool) {
	if Cmp(a, b) < 0 {
		return "", false
	}
	if v, w, ok := words(a, b); ok {
		return wordNat(v - w), true
	}
	x := digitsOf(a)
	subtract(x, digitsOf(b))
	return x.natural(), true
}

// Mul returns the product of a and b.
func Mul(a, b api.Nat) api.Nat {
	if v, w, ok := words(a, b); ok {
		if high, low := bits.Mul64(v, w); high == 0 {
			return wordNat(low)
		}
	}
	return multiply(digitsOf(a), digitsOf(b)).natural()
}

// Quo returns the quotient of a and b, rounded down, the rest, and true; 0, 0 and false if b is 0.
func Quo(a, b api.Nat) (q, r api.Nat, ok bool) {
	if Cmp(b, "") == 0 {
		return "", "", false
	}
	if v, w, ok := words(a, b); ok {
		return wordNat(v / w), wordNat(v % w), true
	}
	quotient, rest := divide(digitsOf(a), digitsOf(b))
	return quotient.natural(), rest.natural(), true
}

// Gcd returns the greatest common divisor of a and b; if one of them is 0, the other one.
func Gcd(a, b api.Nat) api.Nat {
	if v, w, ok := words(a, b); ok {
		return wordNat(commonWord(v, w))
	}
	return common(digitsOf(a), digitsOf(b)).natural()
}

// Bits returns the number of digits of a to the base 2; 0 for 0.
func Bits(a api.Nat) int {
	a = trimmed(a)
	if a == "" {
		return 0
	}
	return 8*(len(a)-1) + bits.Len8(a[0])
}

// Pow returns the rest of a to the power of e when it is divided by m, and true; 0 and false if m is 0.
func Pow(a, e, m api.Nat) (api.Nat, bool) {
	modulus := digitsOf(m)
	if len(modulus) == 0 {
		return "", false
	}
	_, base := divide(digitsOf(a), modulus)
	if modulus[0]%2 == 0 {
		return powerByRests(base, e, modulus).natural(), true
	}
	return powerOfMontgomery(base, e, modulus).natural(), true
}

// Text returns a in decimal, without zeros in front.
func Text(a api.Nat) string { return decimal(digitsOf(a)) }

// Parse returns the number whose Text is s, and true; 0 and false, if there is none.
func Parse(s string) (api.Nat, bool) {
	if !isDecimal(s) {
		return "", false
	}
	return digitsOfDecimal(s).natural(), true
}
