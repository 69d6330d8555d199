package money_test

import (
	"math"
	"math/big"
	"slices"
	"testing"

	"tithing/api"
	"tithing/money"
	"tithing/ratio"
)

// checkSplit checks the parts of so many cents, in cents.
func checkSplit(t *testing.T, cents int, weights []api.Rat, want ...int) {
	t.Helper()
	parts, ok := money.Split(money.Of(cents), weights)
	var made []api.Rat
	for _, n := range want {
		made = append(made, money.Of(n))
	}
	if !ok || !slices.Equal(parts, made) {
		t.Errorf("Split of %d cents for %v: %v, %t, not %v", cents, texts(weights), texts(parts), ok, want)
	}
}

// checkNoSplit checks that Split returns false.
func checkNoSplit(t *testing.T, total api.Rat, weights []api.Rat) {
	t.Helper()
	if parts, ok := money.Split(total, weights); len(parts) != 0 || ok {
		t.Errorf("Split of %#v for %#v: %v, %t", total, weights, texts(parts), ok)
	}
}

// texts returns the texts of numbers.
func texts(l []api.Rat) []string {
	var made []string
	for _, a := range l {
		made = append(made, ratio.Text(a))
	}
	return made
}

func TestP4_4Split(t *testing.T) {
	for _, x := range []struct {
		cents   int
		weights string
		parts   []int
	}{
		{0, "1", []int{0}}, {0, "1 2 0", []int{0, 0, 0}}, {7, "5", []int{7}}, {-7, "1/5", []int{-7}}, {9, "0 1 0", []int{0, 9, 0}}, {1, "0 0 1/1000", []int{0, 0, 1}},
		{1, "1 1 1", []int{1, 0, 0}}, {2, "1 1 1", []int{1, 1, 0}}, {-2, "1 1 1", []int{-1, -1, 0}}, {3, "1 1 1", []int{1, 1, 1}},
		{1, "1 2", []int{0, 1}}, {1, "2 1", []int{1, 0}}, {1, "1 1 1 2", []int{0, 0, 0, 1}}, {2, "1 1 1 2", []int{1, 0, 0, 1}}, {3, "2 1 1 2", []int{1, 1, 0, 1}},
		{10, "1 5 4", []int{1, 5, 4}}, {10, "1/3 2/3 2/3", []int{2, 4, 4}}, {5, "1/2 3/2 0", []int{1, 4, 0}}, {100, "1/7 2/7 4/7", []int{14, 29, 57}},
		// The greatest fractions get the further cents, not the greatest quotas: 33/10, 33/10, 34/10 of 10; 27/10, 9/10, 54/10 of 9.
		{10, "33 33 34", []int{3, 3, 4}}, {9, "3 1 6", []int{3, 1, 5}}, {-9, "3 1 6", []int{-3, -1, -5}},
	} {
		checkSplit(t, x.cents, amounts(x.weights), x.parts...)
	}
}

// TestP4_4Huge divides the extremes of int, for weights of all sizes.
func TestP4_4Huge(t *testing.T) {
	checkSplit(t, math.MaxInt, amounts("1"), math.MaxInt)
	checkSplit(t, math.MinInt, amounts("1"), math.MinInt)
	checkSplit(t, math.MinInt, amounts("0 7"), 0, math.MinInt)
	checkSplit(t, math.MaxInt, amounts("1 1"), 1<<62, 1<<62-1)
	checkSplit(t, math.MinInt, amounts("1 1"), -(1 << 62), -(1 << 62))
	checkSplit(t, math.MinInt, amounts("1 1 1"), -3074457345618258603, -3074457345618258603, -3074457345618258602)
	checkSplit(t, 100, []api.Rat{power(700, 0), power(700, 1)}, 50, 50)
	checkSplit(t, 101, []api.Rat{power(700, 0), power(700, 1)}, 50, 51)
	checkSplit(t, 101, []api.Rat{inverse(power(700, 0)), inverse(power(700, 1))}, 51, 50)
	checkSplit(t, math.MaxInt, []api.Rat{inverse(power(700, 0)), power(700, 1)}, 0, math.MaxInt)
}

func TestP4_4Counts(t *testing.T) {
	weights := slices.Repeat(amounts("1"), 101)
	checkNoSplit(t, money.Of(1), nil)
	checkNoSplit(t, money.Of(1), []api.Rat{})
	checkNoSplit(t, money.Of(1), weights)
	checkNoSplit(t, money.Of(1), slices.Repeat(weights, 100))
	want := make([]int, 100)
	for place := range want {
		want[place] = 1
	}
	checkSplit(t, 100, weights[:100], want...)
	for place := range 50 {
		want[place] = 2
	}
	checkSplit(t, 150, weights[:100], want...)
}

func TestP4_4Invalid(t *testing.T) {
	for _, total := range append(wrong(), amounts("1/3 1/200 -1/1000 2305843009213693952/25 -9223372036854775809/100 18446744073709551616")...) {
		checkNoSplit(t, total, amounts("1"))
		checkNoSplit(t, total, amounts("1 2 3"))
	}
	for _, total := range amounts("0 1 -1/100") {
		for _, weights := range []string{"0", "0 0 0", "-1", "-1 2", "2 -1", "1 -1", "1/2 -1/1000 3", "-1 -1"} {
			checkNoSplit(t, total, amounts(weights))
		}
		for _, bad := range wrong() {
			checkNoSplit(t, total, []api.Rat{bad})
			checkNoSplit(t, total, []api.Rat{bad, amount("1")})
			checkNoSplit(t, total, []api.Rat{amount("1"), bad})
		}
	}
}

// dividedOneByOne returns the parts of cents from 0 on for whole weights, as the chapter words them: the rounded quotas, and then one cent after the other for what is greater by most than its rounded quota.
func dividedOneByOne(cents int, weights []int) []int {
	sum := 0
	for _, w := range weights {
		sum += w
	}
	parts, over, left := make([]int, len(weights)), make([]int, len(weights)), cents
	for i, w := range weights {
		parts[i], over[i] = cents*w/sum, cents*w%sum
		left -= parts[i]
	}
	for ; left > 0; left-- {
		most := 0
		for i := range over {
			if over[i] > over[most] {
				most = i
			}
		}
		parts[most]++
		over[most] = -1
	}
	return parts
}

// TestP4_4EveryList goes through all lists of up to four small weights, over several denominators.
func TestP4_4EveryList(t *testing.T) {
	for length := 1; length <= 4; length++ {
		for code := 1; code < 1<<(2*length); code++ {
			weights := make([]int, length)
			for i := range weights {
				weights[i] = code >> (2 * i) & 3
			}
			for cents := range 23 {
				want := dividedOneByOne(cents, weights)
				for _, den := range []int{1, 2, 7} {
					l := make([]api.Rat, length)
					for i, w := range weights {
						l[i] = fraction(w, den)
					}
					checkSplit(t, cents, l, want...)
					checkSplit(t, -cents, l, opposites(want)...)
				}
			}
		}
	}
}

// TestP4_4LongLists divides for many weights with few different quotas: of equal ones the first ones get the further cents, however long the list is.
func TestP4_4LongLists(t *testing.T) {
	for length := 5; length <= 100; length += 5 {
		for different := 1; different <= 5; different += 2 {
			weights, l := make([]int, length), make([]api.Rat, length)
			for i := range weights {
				weights[i] = i*i*i%different + 1
				l[i] = fraction(weights[i], 6)
			}
			for _, cents := range []int{1, length / 3, length - 1, 7*length + length/2, 100003} {
				want := dividedOneByOne(cents, weights)
				checkSplit(t, cents, l, want...)
				checkSplit(t, -cents, l, opposites(want)...)
			}
		}
	}
}

func opposites(l []int) []int {
	made := make([]int, len(l))
	for i, n := range l {
		made[i] = -n
	}
	return made
}

// TestP4_6Parts checks the parts for weights of all sizes, with the library's numbers.
func TestP4_6Parts(t *testing.T) {
	long := append(amounts("3 1 1/3 2/3 2/3 0 17/100 99999 1/99999 3 18446744073709551616/7 1/18446744073709551615"), power(450, 1), inverse(power(450, 1)))
	for from := range long {
		for to := from + 1; to <= len(long); to++ {
			weights := long[from:to]
			if ratio.Sign(ratio.Sum(weights)) == 0 {
				continue
			}
			for _, cents := range []int{0, 1, 2, 5, 99, 100, 12345, math.MaxInt, -1, -3, -101, math.MinInt} {
				checkParts(t, cents, weights)
			}
		}
	}
}

// checkParts checks that the parts are in whole cents, add up, are less than a cent away from their quotas, and are ordered as the weights are.
func checkParts(t *testing.T, cents int, weights []api.Rat) {
	t.Helper()
	parts, ok := money.Split(money.Of(cents), weights)
	if !ok || len(parts) != len(weights) || ratio.Sum(parts) != money.Of(cents) {
		t.Fatalf("Split of %d cents for %v: %v, %t", cents, texts(weights), texts(parts), ok)
	}
	var sum big.Rat
	for _, w := range weights {
		sum.Add(&sum, library(w))
	}
	for i, part := range parts {
		n, ok := money.Cents(part)
		quota := new(big.Rat).Mul(library(weights[i]), new(big.Rat).SetInt64(int64(cents)))
		away := quota.Sub(new(big.Rat).SetInt64(int64(n)), quota.Quo(quota, &sum))
		if !ok || away.Abs(away).Cmp(big.NewRat(1, 1)) >= 0 || n < 0 && cents > 0 || n > 0 && cents < 0 {
			t.Fatalf("Split of %d cents for %v: %v", cents, texts(weights), texts(parts))
		}
		for j, other := range parts {
			closer := new(big.Rat).Abs(library(part)).Cmp(new(big.Rat).Abs(library(other))) < 0
			if ratio.Cmp(weights[i], weights[j]) > 0 && closer {
				t.Fatalf("Split of %d cents for %v: %v", cents, texts(weights), texts(parts))
			}
		}
	}
}

// library returns an amount as a number of the library.
func library(a api.Rat) *big.Rat {
	x, _ := new(big.Rat).SetString(ratio.Text(a))
	return x
}
