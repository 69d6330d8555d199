package nat

import (
	"math/big"
	"testing"
)

// TestP1_3Estimates checks that a digit that is estimated too high, by 1 or by 2, is put right.
func TestP1_3Estimates(t *testing.T) {
	const top, most = uint64(1) << 63, ^uint64(0)
	for n, c := range []struct {
		rest, divisor digits
		estimate      uint64
		tooHigh       uint64
	}{
		{digits{5, 6, 0}, digits{7, top}, 0, 0},
		{digits{0, 0, 1}, digits{0, top}, 2, 0},
		{digits{0, 0, 1}, digits{1, top}, 2, 1},
		{digits{0, top, 0}, digits{1, top}, 1, 1},
		{digits{0, 0, top - 1}, digits{most - 1, top}, most - 1, 2},
		{digits{most, 0, top - 1}, digits{most, top}, most - 1, 2},
		// Divided by its first digit alone, the rest has no digit as its quotient.
		{digits{0, 0, top}, digits{1, top}, most, 0},
		{digits{0, 0, top}, digits{most - 1, top}, most, 1},
		{digits{0, most - 1, most}, digits{most, most}, most, 0},
	} {
		rest := append(digits{}, c.rest...)
		last := len(c.divisor)
		if got := estimate(rest[last], rest[last-1], c.divisor[last-1]); got != c.estimate {
			t.Errorf("case %d: the estimate is %#x", n, got)
		}
		digit := divideStep(rest, c.divisor)
		if c.estimate-digit != c.tooHigh {
			t.Errorf("case %d: the digit is %#x", n, digit)
		}
		sum := new(big.Int).Mul(library(c.divisor), new(big.Int).SetUint64(digit))
		sum.Add(sum, library(rest))
		if sum.Cmp(library(c.rest)) != 0 || library(rest).Cmp(library(c.divisor)) >= 0 {
			t.Errorf("case %d: the digit %#x leaves %#x", n, digit, rest)
		}
		quotient, remains := divide(c.rest.trimmed(), c.divisor)
		if compare(quotient, digits{digit}.trimmed()) != 0 || compare(remains, rest.trimmed()) != 0 {
			t.Errorf("case %d: divide returns %#x and %#x", n, quotient, remains)
		}
	}
}

// library returns x as a number of the library.
func library(x digits) *big.Int { return new(big.Int).SetBytes([]byte(x.natural())) }
