package rate_test

import (
	"math/big"
	"math/rand/v2"
	"slices"
	"testing"

	"tithing/api"
	"tithing/rate"
	"tithing/ratio"
)

// broken returns a schedule of three brackets, apart from one number of theirs: From or, if ofRate is set, Rate of the bracket at the place.
func broken(place int, ofRate bool, a api.Rat) api.Schedule {
	s := scheduleOf("0 1/10 2 1/5 7/2 0")
	if ofRate {
		s.Brackets[place].Rate = a
	} else {
		s.Brackets[place].From = a
	}
	return s
}

func TestP6_1Form(t *testing.T) {
	for _, text := range []string{"", "1 0", "-1 0", "1/1000 0", "0 1 0 2", "0 1 5 2 5 3", "0 1 5 2 4 3", "0 1 -1 2", "0 1 1/2 2 1/3 3", "0 1 1 2 2 3 3 4 4 5 5 6 6 7 6 8", "0 1 1 2 2 3 3 4 4 5 5 6 6 7 0 8", "5 1 6 1", "0 1 1/3 2 333333333/1000000000 3"} {
		checkErrno(t, scheduleOf(text), api.ErrForm)
	}
	checkErrno(t, api.Schedule{Name: "s", Brackets: []api.Bracket{}}, api.ErrForm)
	for place := range 3 {
		for _, a := range wrong() {
			checkErrno(t, broken(place, false, a), api.ErrForm)
			checkErrno(t, broken(place, true, a), api.ErrForm)
		}
	}
}

func TestP6_1Right(t *testing.T) {
	for _, text := range []string{"0 0", "0 -5", "0 1/3", "0 2 1/1000 -2", "0 0 100 1/10 300 1/4", "0 1 1 1 2 1", "0 1 1/3 2 166666667/500000000 3", "0 1 1 2 2 3 3 4 4 5 5 6 6 7 7 8"} {
		s := scheduleOf(text)
		for _, name := range []string{"", "s", "No name!", "a name that is longer than names are"} {
			s.Name, s.Unit = name, api.Unit{Money: len(name), Days: -1}
			checkErrno(t, s, api.OK)
		}
	}
}

func TestP6_1Range(t *testing.T) {
	for place := range 3 {
		for _, a := range long() {
			checkErrno(t, broken(place, true, a), api.ErrRange)
		}
		for _, a := range longest() {
			checkErrno(t, broken(place, true, a), api.OK)
		}
	}
	checkErrno(t, broken(2, false, power(400, -1)), api.OK)
	checkErrno(t, broken(2, false, power(400, 0)), api.ErrRange)
	checkErrno(t, broken(1, false, inverse(power(400, -1))), api.OK)
	checkErrno(t, broken(1, false, inverse(power(400, 0))), api.ErrRange)
}

// TestP6_1Order checks schedules for which several errors apply.
func TestP6_1Order(t *testing.T) {
	nine := scheduleOf("0 0 1 0 2 0 3 0 4 0 5 0 6 0 7 0 8 0")
	for _, first := range []api.Bracket{{}, {From: ratio.Of(1), Rate: zero}, {From: zero, Rate: power(400, 0)}, {From: zero, Rate: api.Rat{Num: "\x02", Den: "\x02"}}} {
		nine.Brackets[0] = first
		checkErrno(t, nine, api.ErrMany)
	}
	checkErrno(t, api.Schedule{Brackets: make([]api.Bracket, 1000)}, api.ErrMany)
	checkErrno(t, schedule(power(400, 0), zero), api.ErrForm) // the first From is not 0
	checkErrno(t, schedule(ratio.Neg(power(400, 0)), zero), api.ErrForm)
	for place := range 3 {
		for _, a := range []api.Bracket{{From: ratio.Of(-1), Rate: zero}, {From: ratio.Of(9), Rate: api.Rat{Den: "\x02"}}, {From: api.Rat{}, Rate: zero}} {
			for other := range 3 {
				s := broken(other, true, power(400, 0))
				s.Brackets[place].From = a.From
				if s.Brackets[place].Rate = a.Rate; other == place {
					s.Brackets[(place+1)%3].Rate = power(400, 0)
				}
				checkErrno(t, s, api.ErrForm)
			}
		}
	}
}

// valueBy returns the value of a schedule by its definition.
func valueBy(s api.Schedule, x *big.Rat) *big.Rat {
	sum := new(big.Rat)
	for place, b := range s.Brackets {
		end := x
		if place+1 < len(s.Brackets) {
			if next := numberOf(s.Brackets[place+1].From); next.Cmp(x) < 0 {
				end = next
			}
		}
		part := new(big.Rat).Sub(end, numberOf(b.From))
		if part.Sign() > 0 {
			sum.Add(sum, part.Mul(part, numberOf(b.Rate)))
		}
	}
	return sum
}

// marginalBy returns the marginal rate by its definition.
func marginalBy(s api.Schedule, x *big.Rat) api.Rat {
	found := zero
	for _, b := range s.Brackets {
		if numberOf(b.From).Cmp(x) <= 0 {
			found = b.Rate
		}
	}
	return found
}

// checkValues checks At and Marginal for an amount that fits.
func checkValues(t *testing.T, s api.Schedule, x api.Rat) {
	t.Helper()
	value, errno := expected(valueBy(s, numberOf(x)))
	at.check(t, s, x, value, errno)
	marginal.check(t, s, x, marginalBy(s, numberOf(x)), api.OK)
}

// someAmount returns an amount, mostly a small one, in which at most so many bits are used.
func someAmount(r *rand.Rand, bits int) api.Rat {
	num, den := ratio.Of(r.IntN(41)-20), ratio.Of(1+r.IntN(12))
	if r.IntN(4) == 0 {
		num, den = power(r.IntN(bits), -r.IntN(2)), power(r.IntN(bits), 1)
	}
	a, _ := ratio.Quo(num, den)
	if r.IntN(4) == 0 {
		a = ratio.Neg(a)
	}
	return a
}

// someSchedule returns a schedule of up to eight brackets, whose rates are not less than 0 if rising is set.
func someSchedule(r *rand.Rand, bits int, rising bool) api.Schedule {
	froms := []api.Rat{zero}
	for range r.IntN(api.MaxBrackets) {
		if a := someAmount(r, bits); ratio.Sign(a) > 0 {
			froms = append(froms, a)
		}
	}
	slices.SortFunc(froms, ratio.Cmp)
	s := schedule()
	for _, from := range slices.Compact(froms) {
		of := someAmount(r, bits)
		if rising {
			of.Neg = false
		}
		if r.IntN(4) == 0 {
			of = zero
		}
		s.Brackets = append(s.Brackets, api.Bracket{From: from, Rate: of})
	}
	return s
}

// someBits returns how many bits are used: so few that all results fit, or so many that some do not.
func someBits(r *rand.Rand) int { return []int{10, 100, 399}[r.IntN(3)] }

func TestP6_2Values(t *testing.T) {
	r := rand.New(rand.NewPCG(6, 2))
	for range 1500 {
		bits := someBits(r)
		s := someSchedule(r, bits, false)
		for _, b := range s.Brackets {
			checkValues(t, s, b.From)
		}
		for range 12 {
			checkValues(t, s, someAmount(r, bits))
		}
		if t.Failed() {
			t.FailNow()
		}
	}
}

// TestP6_2Bounds checks amounts at and around the beginnings of brackets.
func TestP6_2Bounds(t *testing.T) {
	s := scheduleOf("0 1/10 100 -1/2 300 0 301 7")
	for _, x := range []struct{ x, value, marginal string }{
		{"-301", "0", "0"}, {"-1/1000", "0", "0"}, {"0", "0", "1/10"}, {"1/1000", "1/10000", "1/10"}, {"99", "99/10", "1/10"}, {"100", "10", "-1/2"}, {"102", "9", "-1/2"}, {"299", "-179/2", "-1/2"},
		{"300", "-90", "0"}, {"601/2", "-90", "0"}, {"301", "-90", "7"}, {"302", "-83", "7"}, {"1301", "6910", "7"},
	} {
		at.check(t, s, amount(x.x), amount(x.value), api.OK)
		marginal.check(t, s, amount(x.x), amount(x.marginal), api.OK)
	}
}

func TestP6_2Arguments(t *testing.T) {
	for _, s := range []api.Schedule{scheduleOf("0 0"), scheduleOf("0 1/10 100 -1/2")} {
		for _, f := range []function{at, marginal} {
			for _, x := range wrong() {
				f.fails(t, s, x, api.ErrArg)
			}
			for _, x := range long() {
				f.fails(t, s, x, api.ErrRange)
			}
		}
		for _, x := range longest() {
			checkValues(t, s, x)
		}
	}
}

// TestP6_2Long checks values that do not fit, and values that fit, though those at the beginning of a bracket do not.
func TestP6_2Long(t *testing.T) {
	half := power(399, 0)
	s := schedule(zero, half, ratio.Of(4), ratio.Neg(half))
	at.fails(t, s, ratio.Of(2), api.ErrRange)
	at.fails(t, s, ratio.Of(4), api.ErrRange)
	at.check(t, s, ratio.Of(8), zero, api.OK)
	at.check(t, s, ratio.Of(7), half, api.OK)
	at.fails(t, s, ratio.Of(11), api.ErrRange)
	marginal.check(t, s, ratio.Of(11), ratio.Neg(half), api.OK)
	at.check(t, schedule(zero, half), amount("3/2"), ratio.Mul(half, amount("3/2")), api.OK) // 400 bits
	tiny := inverse(power(300, 1))
	at.fails(t, schedule(zero, tiny), inverse(power(300, 0)), api.ErrRange)
	at.check(t, schedule(zero, tiny), power(300, 1), ratio.Of(1), api.OK)
}

func TestP6_3Rising(t *testing.T) {
	for text, want := range map[string]bool{"": false, "1 1": false, "0 0": true, "0 1/3": true, "0 -1/3": false, "0 1 3 -1": false, "0 -1 3 1": false, "0 1 3 0 4 1/2": true, "0 5 1 4 2 3 3 2 4 1 5 0": true, "0 1 1 1 2 -1/1000 3 1": false, "0 0 1 0 2 0 3 0 4 0 5 0 6 0 7 0": true, "0 0 1 0 2 0 3 0 4 0 5 0 6 0 7 -1": false, "0 0 1 0 2 0 3 0 4 0 5 0 6 0 7 0 8 0": false} {
		if got := rate.Rising(scheduleOf(text)); got != want {
			t.Errorf("Rising of %s: %t", text, got)
		}
	}
	for _, a := range append(wrong(), long()...) {
		if s := broken(1, true, a); rate.Rising(s) {
			t.Errorf("%s is rising", written(s))
		}
	}
	if !rate.Rising(broken(1, true, power(400, -1))) {
		t.Error("a rate that just fits")
	}
}

// TestP6_6Growth checks that the value grows by the marginal rate between two amounts with no From between them.
func TestP6_6Growth(t *testing.T) {
	r := rand.New(rand.NewPCG(6, 6))
	for range 1000 {
		s := someSchedule(r, 20, false)
		for place, b := range s.Brackets {
			beyond := ratio.Add(b.From, amount("1000000"))
			if place+1 < len(s.Brackets) {
				beyond = s.Brackets[place+1].From
			}
			width := ratio.Sub(beyond, b.From)
			low := ratio.Add(b.From, ratio.Mul(width, inverse(ratio.Of(2+r.IntN(9)))))
			for _, x := range []api.Rat{b.From, low, beyond} {
				start, _ := rate.At(s, x)
				for _, y := range []api.Rat{b.From, low, beyond} {
					end, _ := rate.At(s, y)
					if grown := ratio.Mul(b.Rate, ratio.Sub(y, x)); ratio.Sub(end, start) != grown {
						t.Fatalf("%s from %s to %s: %s and %s", written(s), ratio.Text(x), ratio.Text(y), ratio.Text(start), ratio.Text(end))
					}
				}
			}
		}
	}
}

// TestP6_6Order checks that a rising schedule never has a lesser value for a greater amount.
func TestP6_6Order(t *testing.T) {
	r := rand.New(rand.NewPCG(6, 66))
	for range 1000 {
		s := someSchedule(r, 20, true)
		if !rate.Rising(s) {
			t.Fatalf("%s is not rising", written(s))
		}
		for range 10 {
			lesser, greater := someAmount(r, 20), someAmount(r, 20)
			if ratio.Cmp(lesser, greater) > 0 {
				lesser, greater = greater, lesser
			}
			low, _ := rate.At(s, lesser)
			high, _ := rate.At(s, greater)
			if ratio.Cmp(low, high) > 0 {
				t.Fatalf("%s for %s and %s: %s and %s", written(s), ratio.Text(lesser), ratio.Text(greater), ratio.Text(low), ratio.Text(high))
			}
		}
	}
}
