package check_test

import (
	"testing"

	"tithing/api"
	"tithing/check"
	"tithing/ratio"
)

func TestP8_1Unit(t *testing.T) {
	for money := -10; money <= 10; money++ {
		for days := -10; days <= 10; days++ {
			want := money*money <= 9 && days*days <= 9
			if got := check.Unit(api.Unit{Money: money, Days: days}); got != want {
				t.Errorf("Unit of %d and %d: %t", money, days, got)
			}
		}
	}
	// Far ones, among them those that would be near if they lost some of their bits.
	for _, far := range []int{1<<63 - 1, -1 << 63, -1<<63 + 1, 1<<63 - 4, 1 << 8, 1<<8 + 1, -1 << 8, 1 << 16, 1<<32 - 1, 1 << 32, 1<<32 + 3, -1<<32 - 3, 1<<62 + 1} {
		for near := -3; near <= 3; near++ {
			for _, u := range []api.Unit{{Money: far, Days: near}, {Money: near, Days: far}, {Money: far, Days: far}, {Money: far, Days: -far}} {
				if check.Unit(u) {
					t.Errorf("%v is a unit", u)
				}
			}
		}
	}
}

func TestP8_1Value(t *testing.T) {
	right := append(longest(), num("0"), num("1"), num("-1"), num("2"), num("1/2"), num("-1/3"), num("7/5"), num("18446744073709551616"))
	for _, v := range right {
		isTruth := v == num("0") || v == num("1")
		for _, of := range allTypes() {
			if got := check.Value(of, v); got != (!of.Truth || isTruth) {
				t.Errorf("Value of %v and %.100s: %t", of, ratio.Text(v), got)
			}
		}
		for _, of := range noTypes() {
			if check.Value(of, v) {
				t.Errorf("%.100s is a value of %v, which is no type", ratio.Text(v), of)
			}
		}
	}
}

// TestP8_1Others checks what is no amount, or one that does not fit.
func TestP8_1Others(t *testing.T) {
	for _, v := range append(wrong(), long()...) {
		for _, of := range append(allTypes(), noTypes()...) {
			if check.Value(of, v) {
				t.Errorf("%.100v is a value of %v", v, of)
			}
		}
	}
}

// power returns 2 to the power of so many bits, with so much added.
func power(bits, more int) api.Rat {
	a := ratio.Of(1)
	for range bits {
		a = ratio.Add(a, a)
	}
	return ratio.Add(a, ratio.Of(more))
}

// inverse returns 1 / a.
func inverse(a api.Rat) api.Rat {
	b, _ := ratio.Quo(ratio.Of(1), a)
	return b
}

// wrong returns api.Rats that are no amounts, for each of the reasons.
func wrong() []api.Rat {
	return []api.Rat{
		{}, {Neg: true}, {Num: "\x01"}, {Num: "\x05", Neg: true}, // the denominator is 0
		{Num: "\x00", Den: "\x01"}, {Num: "\x00\x01", Den: "\x01"}, {Num: "\x01", Den: "\x00\x01"}, // zeros in front
		{Num: "\x04", Den: "\x02"}, {Num: "\x05", Den: "\x05"}, {Num: "\x0a", Den: "\x04", Neg: true}, // a common divisor
		{Den: "\x02"}, {Den: "\x01", Neg: true}, // 0 with another denominator, or a sign
	}
}

// long returns amounts that do not fit, by a bit or by many.
func long() []api.Rat {
	below, _ := ratio.Quo(power(399, 1), power(400, 0))
	return []api.Rat{power(400, 0), ratio.Neg(power(400, 0)), inverse(power(400, 0)), ratio.Neg(inverse(power(400, 0))), below, power(900, 7), inverse(power(900, 7))}
}

// longest returns amounts that just fit.
func longest() []api.Rat {
	below, _ := ratio.Quo(power(400, -3), power(400, -1))
	return []api.Rat{power(400, -1), ratio.Neg(power(400, -1)), inverse(power(400, -1)), ratio.Neg(inverse(power(400, -1))), below, ratio.Neg(below)}
}
