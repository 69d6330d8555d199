package ratio

import (
	"tithing/api"
	"tithing/nat"
)

// signed returns num / den, which has no common divisor but 1, or its opposite if neg is set; 0 has no sign.
func signed(neg bool, num, den api.Nat) api.Rat {
	return api.Rat{Neg: neg && num != "", Num: num, Den: den}
}

// sign returns -1, 0 or 1, as a is negative, 0 or positive.
func sign(a api.Rat) int {
	switch {
	case a == zero:
		return 0
	case a.Neg:
		return -1
	}
	return 1
}

// opposite returns -a.
func opposite(a api.Rat) api.Rat { return signed(!a.Neg, a.Num, a.Den) }

// denominator returns the denominator of a.
func denominator(a api.Rat) api.Nat { return a.Den }

// plus returns a + b. With g, the common divisor of the denominators, the numerator over their least common multiple has no divisor in common with it but those that it shares with g: this one is much smaller than the sum.
func plus(a, b api.Rat) api.Rat {
	g := common(a.Den, b.Den)
	ofA, ofB := quotient(a.Den, g), quotient(b.Den, g)
	neg, num := difference(a.Neg, product(a.Num, ofB), b.Neg, product(b.Num, ofA))
	h := common(num, g)
	return signed(neg, quotient(num, h), product(ofA, quotient(b.Den, h)))
}

// difference returns the sum of x and y, which are negative if their signs are set, as a sign and a natural number.
func difference(xNeg bool, x api.Nat, yNeg bool, y api.Nat) (bool, api.Nat) {
	if xNeg == yNeg {
		return xNeg, nat.Add(x, y)
	}
	if less, ok := nat.Sub(x, y); ok {
		return xNeg, less
	}
	less, _ := nat.Sub(y, x)
	return yNeg, less
}

// times returns a times b. Each numerator can only have a divisor in common with the other one's denominator, so both are taken out before the products grow.
func times(a, b api.Rat) api.Rat {
	g, h := common(a.Num, b.Den), common(b.Num, a.Den)
	num := product(quotient(a.Num, g), quotient(b.Num, h))
	den := product(quotient(a.Den, h), quotient(b.Den, g))
	return signed(a.Neg != b.Neg, num, den)
}

// multiple returns the least common multiple of a and b, which are not 0.
func multiple(a, b api.Nat) api.Nat { return product(a, quotient(b, common(a, b))) }

// common, quotient and product are nat's, for right numbers. Most amounts are whole numbers, so most of their arguments are 1, and then there is nothing to compute.

// common returns the greatest common divisor of a and b.
func common(a, b api.Nat) api.Nat {
	if a == one || b == one {
		return one
	}
	return nat.Gcd(a, b)
}

// quotient returns a divided by g, which divides it.
func quotient(a, g api.Nat) api.Nat {
	if g == one {
		return a
	}
	q, _, _ := nat.Quo(a, g)
	return q
}

// product returns a times b.
func product(a, b api.Nat) api.Nat {
	switch {
	case a == one:
		return b
	case b == one:
		return a
	}
	return nat.Mul(a, b)
}

// fold joins all elements, in their order: none for no elements. The halves of the list are folded first, so that the numbers that are joined are of about the same size: one that grew with every element would make long lists slow.
func fold[T any](l []T, none T, join func(a, b T) T) T {
	switch len(l) {
	case 0:
		return none
	case 1:
		return l[0]
	}
	half := len(l) / 2
	return join(fold(l[:half], none, join), fold(l[half:], none, join))
}
