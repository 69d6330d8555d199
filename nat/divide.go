package nat

import (
	"math"
	"math/bits"
	"slices"
)

// divide returns the quotient of x and y, which is not 0, rounded down, and the rest; the rest may be x itself.
func divide(x, y digits) (quotient, rest digits) {
	if compare(x, y) < 0 {
		return nil, x
	}
	if len(y) == 1 {
		quotient = slices.Clone(x)
		last := divideByWord(quotient, y[0])
		return quotient.trimmed(), digits{last}.trimmed()
	}
	return divideByDigits(x, y)
}

// divideByWord makes x its quotient by a word that is not 0, and returns the rest.
func divideByWord(x digits, divisor uint64) (rest uint64) {
	for i := len(x) - 1; i >= 0; i-- {
		x[i], rest = bits.Div64(rest, x[i], divisor)
	}
	return rest
}

// divideByDigits divides x by a divisor of at least two digits, and not more than x has.
func divideByDigits(x, divisor digits) (quotient, rest digits) {
	// Both are shifted so that the top bit of the divisor is set: then no estimate of a digit is more than 2 too large.
	shift := uint(bits.LeadingZeros64(divisor[len(divisor)-1]))
	divisor = shiftedLeft(divisor, shift)[:len(divisor)]
	rest = shiftedLeft(x, shift)
	quotient = make(digits, len(rest)-len(divisor))
	for i := len(quotient) - 1; i >= 0; i-- {
		quotient[i] = divideStep(rest[i:i+len(divisor)+1], divisor)
	}
	rest = rest[:len(divisor)] // what remains has no more digits
	shiftRight(rest, shift)
	return quotient.trimmed(), rest.trimmed()
}

// divideStep returns the digit that is the quotient of rest and the divisor, and leaves in rest what remains. rest has one digit more than the divisor, and is less than 2^64 times the divisor.
func divideStep(rest, divisor digits) uint64 {
	last := len(divisor)
	digit := estimate(rest[last], rest[last-1], divisor[last-1])
	if subtractProduct(rest, divisor, digit) == 0 {
		return digit
	}
putRight:
	for {
		digit--
		if add(rest, divisor) != 0 { // the carry makes up for what was borrowed
			break putRight
		}
	}
	return digit
}

// estimate returns the quotient of the number with the digits high and low, and a digit with its top bit set; the greatest digit, if it is no digit.
func estimate(high, low, divisor uint64) uint64 {
	if high >= divisor {
		return math.MaxUint64
	}
	digit, _ := bits.Div64(high, low, divisor)
	return digit
}

// shiftedLeft returns x times 2 to the power of shift, which is less than 64, with one digit more than x.
func shiftedLeft(x digits, shift uint) digits {
	y := make(digits, len(x)+1)
	var carry uint64
	for i, digit := range x {
		y[i] = digit<<shift | carry
		carry = digit >> (64 - shift)
	}
	y[len(x)] = carry
	return y
}

// shiftRight makes x its quotient by 2 to the power of shift, which is less than 64.
func shiftRight(x digits, shift uint) {
	var carry uint64
	for i := len(x) - 1; i >= 0; i-- {
		digit := x[i]
		x[i] = digit>>shift | carry
		carry = digit << (64 - shift)
	}
}
