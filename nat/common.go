package nat

import "math/bits"

// commonWord returns the greatest common divisor of v and w; if one of them is 0, the other one.
func commonWord(v, w uint64) uint64 {
	for w != 0 {
		v, w = w, v%w
	}
	return v
}

// common returns the greatest common divisor of x and y; it uses the memory of both.
func common(x, y digits) digits {
	if compare(x, y) < 0 {
		x, y = y, x
	}
	for len(y) > 1 {
		x, y = reduced(x, y)
	}
	if len(y) == 0 {
		return x
	}
	rest := divideByWord(x, y[0])
	return digits{commonWord(y[0], rest)}
}

// reduced returns two later rests in Euclid's algorithm for x and y, which is not greater than x: they have the same common divisors.
func reduced(x, y digits) (digits, digits) {
	if len(x) == len(y) {
		if c, ok := combine(leading(x, y)); ok {
			return c.applied(x, y)
		}
	}
	_, rest := divide(x, y)
	return y, rest
}

// leading returns the first 64 bits of x, and the bits of y at the same places, for numbers with the same number of digits, which is at least 2.
func leading(x, y digits) (v, w uint64) {
	last := len(x) - 1
	shift := uint(bits.LeadingZeros64(x[last]))
	v = x[last]<<shift | x[last-1]>>(64-shift)
	w = y[last]<<shift | y[last-1]>>(64-shift)
	return v, w
}

// multiples are how often x is taken, and how often y, for their difference.
type multiples struct{ ofX, ofY uint64 }

// combination makes of x and y two of their later rests in Euclid's algorithm, the second one less than the first one. Each is the difference of a multiple of x and one of y: for the first one, that of y is subtracted, and for the second one that of x; if swapped is true, it is the other way round.
type combination struct {
	first, second multiples
	swapped       bool
}

// combine returns the combination of as many steps of Euclid's algorithm as the first bits v and w of two numbers decide, and whether they decide any. This is Lehmer's algorithm: most divisions of long numbers become divisions of words.
func combine(v, w uint64) (combination, bool) {
	c := combination{first: multiples{1, 0}, second: multiples{0, 1}}
	for w != 0 {
		quotient, rest := v/w, v%w
		next := multiples{c.first.ofX + quotient*c.second.ofX, c.first.ofY + quotient*c.second.ofY}
		// The bits that v and w leave out change a rest by less than its multiple of y, which is at least that of x. So this condition, which is Collins', lets no rest become negative, or greater than the one before. It also keeps the multiples below 2^32.
		if rest < next.ofY || w-rest < c.second.ofY+next.ofY {
			break
		}
		v, w = w, rest
		c = combination{c.second, next, !c.swapped}
	}
	return c, c.second.ofX != 0 // from the first step on, x takes part in the second number
}

// applied returns the two numbers that the combination makes of x and y, which have the same number of digits.
func (c combination) applied(x, y digits) (first, second digits) {
	if c.swapped {
		return difference(y, x, c.first.ofY, c.first.ofX), difference(x, y, c.second.ofX, c.second.ofY)
	}
	return difference(x, y, c.first.ofX, c.first.ofY), difference(y, x, c.second.ofY, c.second.ofX)
}

// difference returns x times p, less y times q, which is not greater; x and y have the same number of digits.
func difference(x, y digits, p, q uint64) digits {
	z := make(digits, len(x)+1)
	addProduct(z, x, p)
	subtractProduct(z, y, q)
	return z.trimmed()
}
