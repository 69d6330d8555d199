package nat

import (
	"iter"

	"tithing/api"
)

// bitsFromTop ranges over the digits of e to the base 2, the most significant one first.
func bitsFromTop(e api.Nat) iter.Seq[bool] {
	return func(yield func(bool) bool) {
		for i := Bits(e) - 1; i >= 0; i-- {
			if !yield(e[len(e)-1-i/8]>>(i%8)&1 == 1) {
				return
			}
		}
	}
}

// power returns the base to the power of e, in terms of a product that has the neutral element one.
func power(base, one digits, e api.Nat, product func(x, y digits) digits) digits {
	result := one
	for set := range bitsFromTop(e) {
		result = product(result, result)
		if set {
			result = product(result, base)
		}
	}
	return result
}

// powerByRests returns the base, which is less than the modulus, to the power of e, for a modulus greater than 1.
func powerByRests(base digits, e api.Nat, modulus digits) digits {
	product := func(x, y digits) digits {
		_, rest := divide(multiply(x, y), modulus)
		return rest
	}
	return power(base, digits{1}, e, product)
}

// montgomery multiplies numbers that are less than an odd modulus, and have as many digits, without dividing: x stands for x divided by R, where R is 2^64 to the power of the number of digits.
type montgomery struct {
	modulus digits
	// factor times the last digit of a number is the multiple of the modulus that makes this digit 0.
	factor uint64
}

// newMontgomery returns the products for an odd modulus.
func newMontgomery(modulus digits) montgomery {
	// An odd number is its own inverse modulo 8, and each round doubles the number of bits that are right: 3, 6, 12, 24, 48, 96.
	inverse := modulus[0]
	for range 5 {
		inverse *= 2 - modulus[0]*inverse
	}
	return montgomery{modulus, -inverse}
}

// raised returns the representation of x, which is x times R, modulo the modulus.
func (m montgomery) raised(x digits) digits {
	_, rest := divide(append(make(digits, len(m.modulus)), x...).trimmed(), m.modulus)
	return append(rest, make(digits, len(m.modulus)-len(rest))...)
}

// product returns x times y divided by R, modulo the modulus.
func (m montgomery) product(x, y digits) digits {
	n := len(m.modulus)
	sum := make(digits, 2*n+1)
	for i, digit := range y {
		addProduct(sum[i:], x, digit)
		addProduct(sum[i:], m.modulus, sum[i]*m.factor)
	}
	result := sum[n:]
	if compare(result.trimmed(), m.modulus) >= 0 {
		subtract(result, m.modulus)
	}
	return result[:n]
}

// powerOfMontgomery returns the base, which is less than the modulus, to the power of e, for an odd modulus.
func powerOfMontgomery(base digits, e api.Nat, modulus digits) digits {
	m := newMontgomery(modulus)
	one := make(digits, len(modulus))
	one[0] = 1
	// The product with the plain 1 takes the factor R away again.
	return m.product(power(m.raised(base), m.raised(digits{1}), e, m.product), one)
}
