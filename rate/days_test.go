package rate_test

import (
	"math"
	"math/big"
	"math/rand/v2"
	"slices"
	"strconv"
	"strings"
	"testing"

	"tithing/api"
	"tithing/rate"
	"tithing/ratio"
)

// most is the greatest To of a right span.
const most = api.MaxDay + 1

// noDays are numbers that are no days.
var noDays = []int{math.MinInt, -most, -2, -1, most, most + 1, 1 << 40, math.MaxInt}

// dayRates returns day rates from texts between spaces, two for each: Day and Rate.
func dayRates(s string) []api.DayRate {
	var l []api.DayRate
	texts := strings.Fields(s)
	for place := 0; place+1 < len(texts); place += 2 {
		day, err := strconv.Atoi(texts[place])
		if err != nil {
			panic("no day: " + texts[place])
		}
		l = append(l, api.DayRate{Day: day, Rate: amount(texts[place+1])})
	}
	return l
}

// wrongRates returns day rates that are not right, for each of the reasons.
func wrongRates(day int) []api.DayRate {
	var l []api.DayRate
	for _, a := range append(wrong(), long()...) {
		l = append(l, api.DayRate{Day: day, Rate: a})
	}
	for _, outside := range noDays {
		l = append(l, api.DayRate{Day: outside, Rate: ratio.Of(9)})
	}
	return l
}

// daysOf returns day rates as dayRates reads them.
func daysOf(l []api.DayRate) string {
	var texts []string
	for _, r := range l {
		texts = append(texts, strconv.Itoa(r.Day), ratio.Text(r.Rate))
	}
	return strings.Join(texts, " ")
}

// checkNorm checks what Norm returns for a list, and that it is its own Norm.
func checkNorm(t *testing.T, l, want []api.DayRate) {
	t.Helper()
	for _, x := range [][]api.DayRate{l, want} {
		if got := rate.Norm(x); !slices.Equal(got, want) {
			t.Errorf("Norm of %s: %s, not %s", daysOf(x), daysOf(got), daysOf(want))
		}
	}
}

// checkOn checks the rate in force on a day.
func checkOn(t *testing.T, l []api.DayRate, day int, want api.Rat) {
	t.Helper()
	if got := rate.On(l, day); got != want {
		t.Errorf("On of %s for %d: %s, not %s", daysOf(l), day, ratio.Text(got), ratio.Text(want))
	}
}

// checkOver checks the sum of rates over a span.
func checkOver(t *testing.T, l []api.DayRate, s api.Span, want api.Rat, ok bool) {
	t.Helper()
	if got, gotOk := rate.Over(l, s); got != want || gotOk != ok {
		t.Errorf("Over of %s for %v: %s, %t, not %s, %t", daysOf(l), s, ratio.Text(got), gotOk, ratio.Text(want), ok)
	}
}

func TestP6_4Norm(t *testing.T) {
	last := strconv.Itoa(api.MaxDay)
	for l, want := range map[string]string{
		"": "", "0 0": "", "5 0": "", "0 1": "0 1", "5 1": "5 1", "5 -1/3": "5 -1/3", "0 0 5 1 9 0": "5 1 9 0", "5 1 9 1 12 1": "5 1", "12 1 9 1 5 1": "5 1", "9 2 5 1": "5 1 9 2",
		"5 1 5 2": "5 2", "5 2 5 1": "5 1", "5 1 5 0": "", "0 1 0 0 3 0": "", "5 1 9 2 9 1": "5 1", "5 1 6 0 7 0 8 2 8 1 9 1": "5 1 6 0 8 1", "0 1 1 2 2 1": "0 1 1 2 2 1", "0 1 1 1": "0 1",
		last + " 1": last + " 1", last + " 1 0 1": "0 1", last + " 0 0 1": "0 1 " + last + " 0", last + " 0": "",
	} {
		checkNorm(t, dayRates(l), dayRates(want))
		checkNorm(t, append(dayRates(l), wrongRates(5)...), dayRates(want))
		checkNorm(t, append(wrongRates(0), dayRates(l)...), dayRates(want))
	}
	checkNorm(t, nil, nil)
	checkNorm(t, []api.DayRate{}, nil)
	checkNorm(t, wrongRates(3), nil)
	for _, a := range longest() {
		checkNorm(t, []api.DayRate{{Day: 3, Rate: a}}, []api.DayRate{{Day: 3, Rate: a}})
	}
}

func TestP6_4On(t *testing.T) {
	l := dayRates("10 1 5 2 10 3 20 3 30 0 40 -1/2 40 1/2 50 5 35 7")
	for day, want := range map[int]string{0: "0", 4: "0", 5: "2", 9: "2", 10: "3", 12: "3", 20: "3", 29: "3", 30: "0", 34: "0", 35: "7", 39: "7", 40: "1/2", 49: "1/2", 50: "5", api.MaxDay: "5"} {
		checkOn(t, l, day, amount(want))
		checkOn(t, append(wrongRates(day), append(l, wrongRates(day)...)...), day, amount(want))
		checkOn(t, nil, day, zero)
		checkOn(t, wrongRates(day), day, zero)
	}
	for _, day := range noDays {
		checkOn(t, l, day, zero)
		checkOn(t, nil, day, zero)
		checkOn(t, wrongRates(0), day, zero)
		checkOn(t, dayRates("0 7"), day, zero)
	}
	checkOn(t, dayRates("0 7"), 0, ratio.Of(7))
	checkOn(t, []api.DayRate{{Day: api.MaxDay, Rate: ratio.Of(7)}}, api.MaxDay, ratio.Of(7))
	checkOn(t, []api.DayRate{{Day: api.MaxDay, Rate: ratio.Of(7)}}, api.MaxDay-1, zero)
	for _, a := range longest() {
		checkOn(t, []api.DayRate{{Day: 3, Rate: a}}, 8, a)
	}
}

// onBy returns the rate in force on a day by its definition.
func onBy(l []api.DayRate, day int) api.Rat {
	found := api.DayRate{Rate: zero}
	if day > api.MaxDay {
		return zero
	}
	for _, r := range l {
		isRight := r.Day >= 0 && r.Day <= api.MaxDay && ratio.Right(r.Rate) && fits(numberOf(r.Rate))
		if isRight && r.Day <= day && r.Day >= found.Day {
			found = r
		}
	}
	return found.Rate
}

// someRates returns day rates in the days around base, and some that are not right.
func someRates(r *rand.Rand, base int) []api.DayRate {
	var l []api.DayRate
	for range r.IntN(10) {
		a := amounts("0 0 1 1 2 -1 1/2 1/3 -7/5")[r.IntN(9)]
		l = append(l, api.DayRate{Day: base + r.IntN(14) - 2, Rate: a})
	}
	for range r.IntN(3) {
		none := wrongRates(base + r.IntN(12))
		l = append(l, none[r.IntN(len(none))])
	}
	r.Shuffle(len(l), func(i, j int) { l[i], l[j] = l[j], l[i] })
	return l
}

// bases are the first days of the few days in which the rates of someRates change.
var bases = []int{0, 730119, most - 11}

// TestP6_4AnyList compares with the model, day by day.
func TestP6_4AnyList(t *testing.T) {
	r := rand.New(rand.NewPCG(6, 4))
	for range 3000 {
		base := bases[r.IntN(3)]
		l := someRates(r, base)
		var changes []api.DayRate
		before := zero
		for day := max(0, base-3); day < min(most, base+15); day++ {
			now := onBy(l, day)
			checkOn(t, l, day, now)
			if now != before {
				changes = append(changes, api.DayRate{Day: day, Rate: now})
			}
			before = now
		}
		checkNorm(t, l, changes)
		if t.Failed() {
			t.FailNow()
		}
	}
}

func TestP6_5Over(t *testing.T) {
	l := dayRates("10 1 5 2 10 3 20 -1/2 30 0")
	for _, x := range []struct {
		from, to int
		want     string
	}{
		{8, 12, "10"}, {0, 1, "0"}, {0, 5, "0"}, {0, 6, "2"}, {4, 6, "2"}, {5, 6, "2"}, {9, 10, "2"}, {9, 11, "5"}, {10, 11, "3"}, {19, 20, "3"}, {19, 21, "5/2"}, {20, 21, "-1/2"}, {20, 30, "-5"}, {29, 31, "-1/2"}, {30, 31, "0"}, {12, 18, "18"},
		{0, most, "35"}, {30, most, "0"}, {api.MaxDay, most, "0"}, {29, most, "-1/2"},
	} {
		s := api.Span{From: x.from, To: x.to}
		checkOver(t, l, s, amount(x.want), true)
		checkOver(t, append(wrongRates(x.from), append(l, wrongRates(x.from)...)...), s, amount(x.want), true)
		checkOver(t, nil, s, zero, true)
		checkOver(t, wrongRates(x.from), s, zero, true)
	}
	checkOver(t, dayRates("0 1/3"), api.Span{From: 0, To: most}, amount("1217353"), true)
	checkOver(t, dayRates("5 1"), api.Span{From: api.MaxDay, To: most}, ratio.Of(1), true)
	checkOver(t, []api.DayRate{{Day: api.MaxDay, Rate: ratio.Of(7)}}, api.Span{From: 0, To: most}, ratio.Of(7), true)
}

func TestP6_5WrongSpans(t *testing.T) {
	for _, s := range []api.Span{{}, {From: 8, To: 8}, {From: 9, To: 8}, {From: -1, To: 5}, {From: 0, To: most + 1}, {From: most, To: most}, {From: most, To: most + 1}, {From: math.MinInt, To: math.MaxInt}, {From: 0, To: math.MaxInt}, {From: math.MinInt, To: 0}, {From: math.MaxInt, To: math.MinInt}, {From: -5, To: -1}} {
		checkOver(t, dayRates("0 1"), s, api.Rat{}, false)
		checkOver(t, nil, s, api.Rat{}, false)
	}
}

// TestP6_5Long checks sums that do not fit, and sums that do, though a part of them does not.
func TestP6_5Long(t *testing.T) {
	half := power(399, 0)
	l := []api.DayRate{{Day: 0, Rate: half}, {Day: 4, Rate: ratio.Neg(half)}, {Day: 8, Rate: inverse(half)}, {Day: 9, Rate: inverse(power(300, 1))}, {Day: 10, Rate: ratio.Neg(inverse(power(300, 1)))}}
	for _, x := range []struct {
		from, to int
		want     api.Rat
		ok       bool
	}{
		{0, 1, half, true}, {0, 2, api.Rat{}, false}, {0, 4, api.Rat{}, false}, {0, 7, half, true}, {0, 8, zero, true}, {4, 8, api.Rat{}, false}, {3, 5, zero, true},
		{8, 9, inverse(half), true}, {8, 10, api.Rat{}, false}, {8, 11, inverse(half), true}, {7, 9, api.Rat{}, false},
	} {
		checkOver(t, l, api.Span{From: x.from, To: x.to}, x.want, x.ok)
	}
}

// TestP6_5AnyList compares with the model, day by day.
func TestP6_5AnyList(t *testing.T) {
	r := rand.New(rand.NewPCG(6, 5))
	for range 2000 {
		base := bases[r.IntN(3)]
		l := someRates(r, base)
		for range 5 {
			from := max(0, base-3) + r.IntN(10)
			from = min(from, api.MaxDay)
			sum := new(big.Rat)
			for day := from; day < min(most, base+15); day++ {
				sum.Add(sum, numberOf(onBy(l, day)))
				checkOver(t, l, api.Span{From: from, To: day + 1}, amountOf(sum), true)
			}
		}
		if t.Failed() {
			t.FailNow()
		}
	}
}

// TestP6_7Parts checks that the sum over a span is that over its two parts, and that Norm changes neither sums nor rates.
func TestP6_7Parts(t *testing.T) {
	r := rand.New(rand.NewPCG(6, 7))
	for range 2000 {
		l := append(someRates(r, 0), append(someRates(r, 730119), someRates(r, most-11)...)...)
		norm := rate.Norm(l)
		if !slices.Equal(rate.Norm(norm), norm) {
			t.Fatalf("Norm of %s", daysOf(norm))
		}
		days := []int{0, most}
		for range 3 {
			days = append(days, r.IntN(most), bases[r.IntN(3)]+r.IntN(11))
		}
		slices.Sort(days)
		for place, middle := range days {
			checkOn(t, norm, middle, rate.On(l, middle))
			from, to := days[0], days[len(days)-1]
			if place == 0 || middle == from || middle == to {
				continue
			}
			first, _ := rate.Over(norm, api.Span{From: from, To: middle})
			second, _ := rate.Over(l, api.Span{From: middle, To: to})
			checkOver(t, l, api.Span{From: from, To: to}, ratio.Add(first, second), true)
		}
		if t.Failed() {
			t.FailNow()
		}
	}
}

// TestNormOwnership checks that neither Norm nor its result changes the list.
func TestNormOwnership(t *testing.T) {
	l := dayRates("10 1 5 2 10 3 20 3")
	given := slices.Clone(l)
	norm := rate.Norm(l)
	clear(norm[:cap(norm)])
	if !slices.Equal(l, given) {
		t.Errorf("the list is %s now", daysOf(l))
	}
	increasing := dayRates("5 2 10 3")
	clear(rate.Norm(increasing))
	if !slices.Equal(increasing, dayRates("5 2 10 3")) {
		t.Errorf("the list is %s now", daysOf(increasing))
	}
}
