package money_test

import (
	"testing"

	"tithing/api"
	"tithing/money"
	"tithing/ratio"
)

// roundings has the functions that round, by their names.
var roundings = map[string]func(a, step api.Rat) (api.Rat, bool){"Down": money.Down, "Up": money.Up, "Near": money.Near}

// checkRounding checks what all of them return.
func checkRounding(t *testing.T, a, step, down, up, near api.Rat) {
	t.Helper()
	for name, want := range map[string]api.Rat{"Down": down, "Up": up, "Near": near} {
		if got, ok := roundings[name](a, step); got != want || !ok {
			t.Errorf("%s of %s to %s: %#v, %t, not %s", name, ratio.Text(a), ratio.Text(step), got, ok, ratio.Text(want))
		}
	}
}

// checkNoRounding checks that all of them return false.
func checkNoRounding(t *testing.T, a, step api.Rat) {
	t.Helper()
	for name, round := range roundings {
		got, ok := round(a, step)
		absent(t, name+" of "+ratio.Text(a)+" to "+ratio.Text(step), got, ok)
	}
}

// floorOf returns num / den rounded down, for a den greater than 0.
func floorOf(num, den int) int {
	if num < 0 {
		return -((den - 1 - num) / den)
	}
	return num / den
}

// TestP4_3Rounding compares with int arithmetic: num / den has num * below / (den * above) steps of above / below.
func TestP4_3Rounding(t *testing.T) {
	for num := -40; num <= 40; num++ {
		for _, den := range []int{1, 2, 3, 4, 7, 100} {
			for _, above := range []int{1, 2, 3, 5, 9} {
				for _, below := range []int{1, 2, 3, 8, 100} {
					steps, of := num*below, den*above
					down, up := floorOf(steps, of), -floorOf(-steps, of)
					near := up
					if 2*steps < (down+up)*of {
						near = down
					}
					checkRounding(t, fraction(num, den), fraction(above, below), fraction(down*above, below), fraction(up*above, below), fraction(near*above, below))
				}
			}
		}
	}
}

func TestP4_3Ties(t *testing.T) {
	for _, x := range []struct{ a, step, down, up string }{
		{"1/2", "1", "0", "1"}, {"-1/2", "1", "-1", "0"}, {"3/2", "1", "1", "2"}, {"-3/2", "1", "-2", "-1"}, {"5/2", "1", "2", "3"}, {"1/200", "1/100", "0", "1/100"}, {"-1/200", "1/100", "-1/100", "0"},
		{"1/6", "1/3", "0", "1/3"}, {"50", "100", "0", "100"}, {"-50", "100", "-100", "0"}, {"18446744073709551617/2", "1", "9223372036854775808", "9223372036854775809"},
	} {
		checkRounding(t, amount(x.a), amount(x.step), amount(x.down), amount(x.up), amount(x.up))
		// A little below the middle between two multiples the lesser one is nearest.
		below := ratio.Sub(amount(x.a), inverse(power(500, 0)))
		checkRounding(t, below, amount(x.step), amount(x.down), amount(x.up), amount(x.down))
	}
}

func TestP4_3RoundingInvalid(t *testing.T) {
	for _, a := range append(samples(), wrong()...) {
		for _, step := range append(wrong(), amounts("0 -1 -1/100 -18446744073709551616/3")...) {
			checkNoRounding(t, a, step)
		}
	}
	for _, a := range wrong() {
		for _, step := range samples() {
			checkNoRounding(t, a, step)
		}
	}
}

// steps returns the samples that amounts can be rounded to.
func steps() []api.Rat {
	var l []api.Rat
	for _, a := range samples() {
		if ratio.Sign(a) > 0 {
			l = append(l, a)
		}
	}
	return l
}

// isMultiple reports whether a is a multiple of a step.
func isMultiple(a, step api.Rat) bool {
	times, _ := ratio.Quo(a, step)
	return times.Den == "\x01"
}

// TestP4_3Definition checks amounts of all sizes: the results are multiples, with no other one between them and a, and Near is the nearer one of two.
func TestP4_3Definition(t *testing.T) {
	for _, a := range samples() {
		for _, step := range steps() {
			down, _ := money.Down(a, step)
			up, _ := money.Up(a, step)
			near, _ := money.Near(a, step)
			below, above := ratio.Sub(a, down), ratio.Sub(up, a)
			if !isMultiple(down, step) || !isMultiple(up, step) || ratio.Sign(below) < 0 || ratio.Sign(above) < 0 || ratio.Cmp(below, step) >= 0 || ratio.Cmp(above, step) >= 0 {
				t.Errorf("%s to %s: Down %s, Up %s", ratio.Text(a), ratio.Text(step), ratio.Text(down), ratio.Text(up))
			}
			want := up
			if ratio.Cmp(below, above) < 0 {
				want = down
			}
			if near != want {
				t.Errorf("Near of %s to %s: %s", ratio.Text(a), ratio.Text(step), ratio.Text(near))
			}
		}
	}
}

// TestP4_6Multiples checks that rounding a multiple changes nothing.
func TestP4_6Multiples(t *testing.T) {
	for _, step := range steps() {
		for _, times := range amounts("0 1 -1 2 -3 100 -200 9223372036854775808 -18446744073709551617") {
			a := ratio.Mul(times, step)
			checkRounding(t, a, step, a, a, a)
		}
	}
}

// TestP4_6Order checks that Down and Up never change the order of two amounts.
func TestP4_6Order(t *testing.T) {
	for _, step := range steps() {
		for _, a := range samples() {
			for _, b := range samples() {
				if ratio.Cmp(a, b) > 0 {
					continue
				}
				for _, name := range []string{"Down", "Up"} {
					lesser, _ := roundings[name](a, step)
					greater, _ := roundings[name](b, step)
					if ratio.Cmp(lesser, greater) > 0 {
						t.Errorf("%s to %s: %s of %s, but %s of %s", name, ratio.Text(step), ratio.Text(lesser), ratio.Text(a), ratio.Text(greater), ratio.Text(b))
					}
				}
			}
		}
	}
}
