package nat

import (
	"cmp"
	"math/bits"

	"tithing/api"
)

// digits is a natural number to the base 2^64, the least significant digit first. Functions that compare or divide numbers expect them without zeros at their end.
type digits []uint64

// digitsOf returns the digits of a, in new memory, without zeros at their end.
func digitsOf(a api.Nat) digits {
	a = trimmed(a)
	x := make(digits, (len(a)+7)/8)
	for i := range x {
		end := len(a) - 8*i
		x[i] = wordOf(a[max(end-8, 0):end])
	}
	return x
}

// natural returns the right api.Nat of x, in new memory.
func (x digits) natural() api.Nat {
	b := make([]byte, 0, 8*len(x))
	for i := len(x) - 1; i >= 0; i-- {
		b = appendWord(b, x[i])
	}
	return trimmed(api.Nat(b))
}

// trimmed returns the part of x without zeros at its end.
func (x digits) trimmed() digits {
	for len(x) > 0 && x[len(x)-1] == 0 {
		x = x[:len(x)-1]
	}
	return x
}

// compare returns -1, 0 or 1, if x is less than, equal to, or greater than y.
func compare(x, y digits) int {
	if len(x) != len(y) {
		return cmp.Compare(len(x), len(y))
	}
	for i := len(x) - 1; i >= 0; i-- {
		if x[i] != y[i] {
			return cmp.Compare(x[i], y[i])
		}
	}
	return 0
}

// add adds y to x, which has at least as many digits, and returns the carry beyond them.
func add(x, y digits) (carry uint64) {
	for i, digit := range y {
		x[i], carry = bits.Add64(x[i], digit, carry)
	}
	return addWord(x[len(y):], carry)
}

// addWord adds a digit to x, and returns the carry beyond the digits of x.
func addWord(x digits, carry uint64) uint64 {
	for i := 0; i < len(x) && carry != 0; i++ {
		x[i], carry = bits.Add64(x[i], carry, 0)
	}
	return carry
}

// subtract subtracts y from x, which is not less than y.
func subtract(x, y digits) {
	var borrow uint64
	for i, digit := range y {
		x[i], borrow = bits.Sub64(x[i], digit, borrow)
	}
	for i := len(y); i < len(x) && borrow != 0; i++ {
		x[i], borrow = bits.Sub64(x[i], 0, borrow)
	}
}

// addProduct adds y times factor to x, whose digits have room for the sum.
func addProduct(x, y digits, factor uint64) {
	var carry uint64
	for i, digit := range y {
		high, low := bits.Mul64(digit, factor)
		low, more := bits.Add64(low, carry, 0)
		high += more
		x[i], more = bits.Add64(x[i], low, 0)
		carry = high + more
	}
	addWord(x[len(y):], carry)
}

// subtractProduct subtracts y times factor from x, which has one digit more than y, and returns what has to be borrowed from beyond x.
func subtractProduct(x, y digits, factor uint64) (borrow uint64) {
	for i, digit := range y {
		high, low := bits.Mul64(digit, factor)
		low, more := bits.Add64(low, borrow, 0)
		high += more
		x[i], more = bits.Sub64(x[i], low, 0)
		borrow = high + more
	}
	x[len(y)], borrow = bits.Sub64(x[len(y)], borrow, 0)
	return borrow
}

// multiply returns the product of x and y.
func multiply(x, y digits) digits {
	product := make(digits, len(x)+len(y))
	for i, digit := range y {
		addProduct(product[i:], x, digit)
	}
	return product.trimmed()
}

// multiplyByWord returns x times factor, plus more, without zeros at its end; it uses the memory of x.
func multiplyByWord(x digits, factor, more uint64) digits {
	for i, digit := range x {
		high, low := bits.Mul64(digit, factor)
		low, carry := bits.Add64(low, more, 0)
		x[i], more = low, high+carry
	}
	return append(x, more).trimmed()
}
