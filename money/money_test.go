package money_test

import (
	"fmt"
	"math"
	"math/big"
	"slices"
	"strings"
	"testing"

	"tithing/api"
	"tithing/money"
	"tithing/ratio"
)

// amount returns the amount of a text in lowest terms.
func amount(s string) api.Rat {
	a, ok := ratio.Parse(s)
	if !ok {
		panic("no amount in lowest terms: " + s)
	}
	return a
}

// amounts returns the amounts of texts between spaces.
func amounts(s string) []api.Rat {
	var l []api.Rat
	for _, text := range strings.Fields(s) {
		l = append(l, amount(text))
	}
	return l
}

// fraction returns num / den, which need not be in lowest terms.
func fraction(num, den int) api.Rat {
	a, _ := ratio.Quo(ratio.Of(num), ratio.Of(den))
	return a
}

// power returns 2 to the power of so many bits, with so much added.
func power(bits, more int) api.Rat {
	x := new(big.Int).Lsh(big.NewInt(1), uint(bits))
	x.Add(x, big.NewInt(int64(more)))
	return api.Rat{Num: api.Nat(x.Bytes()), Den: "\x01"}
}

// inverse returns 1 / a.
func inverse(a api.Rat) api.Rat {
	b, _ := ratio.Quo(ratio.Of(1), a)
	return b
}

// wrong returns api.Rats that are no amounts, for each of the reasons.
func wrong() []api.Rat {
	return []api.Rat{
		{}, {Neg: true}, {Num: "\x01"}, {Num: "\x01", Neg: true}, // the denominator is 0
		{Num: "\x00", Den: "\x01"}, {Num: "\x00\x01", Den: "\x01"}, {Num: "\x01", Den: "\x00\x01"}, {Num: "\x01", Den: "\x00\x64"}, // zeros in front
		{Num: "\x02", Den: "\x02"}, {Num: "\x32", Den: "\x64"}, {Num: "\x02", Den: "\x04", Neg: true}, // a common divisor
		{Den: "\x02"}, {Den: "\x64"}, {Den: "\x01", Neg: true}, // 0 with another denominator, or a sign
	}
}

// samples returns amounts of all sizes and both signs, some of them in whole cents.
func samples() []api.Rat {
	l := amounts(`0 1 2 3 7 100 1/2 1/3 2/3 3/2 5/4 7/3 5/6 1/50 1/100 7/100 101/100 1/200 1/300 1/1000 99/100 25/2
		9223372036854775807 9223372036854775808 18446744073709551616 9223372036854775807/100 2305843009213693952/25 9223372036854775809/100
		1/18446744073709551615 1/18446744073709551616 340282366920938463463374607431768211456/3 3/340282366920938463463374607431768211456`)
	l = append(l, power(399, 1), power(400, 0), inverse(power(400, 1)), power(700, 3))
	for _, a := range l[1:] {
		l = append(l, ratio.Neg(a))
	}
	return l
}

// absent checks that a call returns the zero value, and false.
func absent(t *testing.T, call string, got api.Rat, ok bool) {
	t.Helper()
	if got != (api.Rat{}) || ok {
		t.Errorf("%s: %#v, %t", call, got, ok)
	}
}

// TestExamples checks the rows of the chapter's section 'Examples'.
func TestExamples(t *testing.T) {
	if a := money.Of(1250); a != amount("25/2") {
		t.Errorf("Of(1250): %s", ratio.Text(a))
	}
	if n, ok := money.Cents(amount("25/2")); n != 1250 || !ok {
		t.Errorf("Cents of 25/2: %d, %t", n, ok)
	}
	if n, ok := money.Cents(amount("1/3")); n != 0 || ok {
		t.Errorf("Cents of 1/3: %d, %t", n, ok)
	}
	checkRounding(t, amount("7/3"), amount("1/2"), amount("2"), amount("5/2"), amount("5/2"))
	checkRounding(t, amount("5/4"), amount("1/2"), amount("1"), amount("3/2"), amount("3/2"))
	checkRounding(t, amount("-5/4"), amount("1/2"), amount("-3/2"), amount("-1"), amount("-1"))
	checkNoRounding(t, amount("1"), amount("0"))
	checkSplit(t, 100, amounts("1 1 1"), 34, 33, 33)
	checkSplit(t, -1, amounts("1 1"), -1, 0)
	checkNoSplit(t, amount("1/3"), amounts("1"))
	checkNoSplit(t, amount("1"), amounts("0"))
	checkText(t, 1250, "$12.50")
	checkText(t, -5, "$-0.05")
	checkNoText(t, "$12.5")
	checkNoText(t, "$-0.00")
}

// TestDocExamples checks the rows of the document's section 'Examples' that are about amounts.
func TestDocExamples(t *testing.T) {
	if a, ok := money.Down(amount("7/3"), amount("1/100")); a != amount("233/100") || !ok {
		t.Errorf("Down of 7/3 to a cent: %s, %t", ratio.Text(a), ok)
	}
	if a, ok := money.Down(amount("-1/300"), amount("1/100")); a != amount("-1/100") || !ok {
		t.Errorf("Down of -1/300 to a cent: %s, %t", ratio.Text(a), ok)
	}
	checkSplit(t, 101, amounts("3/4 1/4"), 76, 25)
}

func TestP4_1Fits(t *testing.T) {
	for _, x := range []struct {
		a    api.Rat
		fits bool
	}{
		{amount("0"), true}, {amount("1"), true}, {amount("-1/3"), true}, {amount("9223372036854775809/100"), true},
		{power(399, 0), true}, {power(400, -1), true}, {power(400, 0), false}, {power(400, 1), false}, {power(401, 0), false}, {power(3200, 0), false},
		{inverse(power(400, -1)), true}, {inverse(power(400, 0)), false}, {inverse(power(3200, 0)), false},
		{ratio.Mul(power(400, -1), inverse(power(399, 0))), true}, {ratio.Mul(power(400, 1), inverse(power(399, 0))), false}, {ratio.Mul(power(399, 0), inverse(power(400, 1))), false},
	} {
		if money.Fits(x.a) != x.fits || money.Fits(ratio.Neg(x.a)) != x.fits {
			t.Errorf("Fits of %s: %t, of its opposite %t", ratio.Text(x.a), money.Fits(x.a), money.Fits(ratio.Neg(x.a)))
		}
	}
	for _, a := range wrong() {
		if money.Fits(a) {
			t.Errorf("Fits(%#v)", a)
		}
	}
	long := power(700, 1)
	for _, a := range []api.Rat{{Num: long.Num}, {Num: "\x00" + long.Num, Den: "\x01"}, {Num: long.Num, Den: long.Num}, {Den: long.Num}} {
		if money.Fits(a) {
			t.Errorf("Fits(%#v)", a)
		}
	}
}

// ints are numbers of cents, with the extremes.
func ints() []int {
	l := []int{math.MaxInt, math.MaxInt - 1, math.MaxInt - 6, math.MaxInt - 7, math.MinInt, math.MinInt + 1, math.MinInt + 8, 1 << 62, -(1 << 62), 1 << 32, 255, 256, 65536, 123456789}
	for n := -1100; n <= 1100; n++ {
		l = append(l, n)
	}
	return l
}

func TestP4_2Of(t *testing.T) {
	for _, n := range ints() {
		want, _ := ratio.Quo(ratio.Of(n), ratio.Of(100))
		if got := money.Of(n); got != want {
			t.Errorf("Of(%d): %#v", n, got)
		}
		if got, ok := money.Cents(money.Of(n)); got != n || !ok {
			t.Errorf("Cents(Of(%d)): %d, %t", n, got, ok)
		}
	}
}

func TestP4_2Cents(t *testing.T) {
	for num := -300; num <= 300; num++ {
		for den := 1; den <= 220; den++ {
			whole := num*100%den == 0
			want := 0
			if whole {
				want = num * 100 / den
			}
			if n, ok := money.Cents(fraction(num, den)); n != want || ok != whole {
				t.Fatalf("Cents of %d/%d: %d, %t", num, den, n, ok)
			}
		}
	}
}

func TestP4_2CentsLimits(t *testing.T) {
	for _, x := range []struct {
		cents string
		n     int
		ok    bool
	}{
		{"9223372036854775806", math.MaxInt - 1, true}, {"9223372036854775807", math.MaxInt, true}, {"9223372036854775808", 0, false}, {"9223372036854775809", 0, false},
		{"-9223372036854775807", math.MinInt + 1, true}, {"-9223372036854775808", math.MinInt, true}, {"-9223372036854775809", 0, false}, {"-9223372036854775810", 0, false},
		{"18446744073709551615", 0, false}, {"18446744073709551616", 0, false}, {"18446744073709551617", 0, false}, {"-18446744073709551616", 0, false}, {"-18446744073709551617", 0, false},
		{"1000000000000000000000000000000000000", 0, false}, {"-1000000000000000000000000000000000000", 0, false},
	} {
		if n, ok := money.Cents(ratio.Mul(amount(x.cents), amount("1/100"))); n != x.n || ok != x.ok {
			t.Errorf("Cents of %s cents: %d, %t", x.cents, n, ok)
		}
	}
	for _, a := range append(wrong(), power(700, 1), inverse(power(700, 1)), amount("1/10000"), amount("-1/200"), amount("9223372036854775807/1000")) {
		if n, ok := money.Cents(a); n != 0 || ok {
			t.Errorf("Cents(%#v): %d, %t", a, n, ok)
		}
	}
}

// TestR3 checks that lists are left as they are, and that a result is new memory.
func TestR3(t *testing.T) {
	for _, weights := range [][]api.Rat{amounts("1/2 5/6 0 3 3"), wrong(), append(amounts("1/2 1"), wrong()...)} {
		before := slices.Clone(weights)
		money.Split(money.Of(100), weights)
		if !slices.Equal(weights, before) {
			t.Errorf("the weights became %#v", weights)
		}
	}
	weights := amounts("1 1 1")
	first, _ := money.Split(money.Of(100), weights)
	clear(first[:cap(first)])
	checkSplit(t, 100, weights, 34, 33, 33)
}

// TestP1 calls every function with all kinds of arguments: none panics, and what is returned is right, or a zero value with false.
func TestP1(t *testing.T) {
	check := func(call string, a api.Rat, ok bool) {
		t.Helper()
		if !ok {
			absent(t, call, a, ok)
		} else if !ratio.Right(a) {
			t.Errorf("%s: %#v", call, a)
		}
	}
	all := append(samples(), wrong()...)
	for _, a := range all {
		money.Fits(a)
		if text, ok := money.Text(a); ok {
			again, is := money.Parse(text)
			check("Parse("+text+")", again, is)
		}
		again, ok := money.Parse("$" + string(a.Num) + "." + string(a.Den))
		check("Parse", again, ok)
		for _, b := range all {
			down, one := money.Down(a, b)
			check(fmt.Sprintf("Down(%#v, %#v)", a, b), down, one)
			up, two := money.Up(a, b)
			check(fmt.Sprintf("Up(%#v, %#v)", a, b), up, two)
			near, three := money.Near(a, b)
			check(fmt.Sprintf("Near(%#v, %#v)", a, b), near, three)
			parts, ok := money.Split(a, []api.Rat{b, a, b})
			for _, part := range parts {
				check(fmt.Sprintf("Split(%#v, %#v)", a, b), part, ok)
			}
		}
	}
}
