package rate

import (
	"iter"
	"maps"
	"slices"

	"tithing/api"
	"tithing/money"
	"tithing/ratio"
	"tithing/span"
)

func Norm(l []api.DayRate) []api.DayRate {
	var changes []api.DayRate
	for days, rate := range steady(l) {
		if days.From > 0 || rate != zero {
			changes = append(changes, api.DayRate{Day: days.From, Rate: rate})
		}
	}
	return changes
}

func On(l []api.DayRate, day int) api.Rat {
	for days, rate := range steady(l) {
		if days.From <= day && day < days.To {
			return rate
		}
	}
	return zero
}

func Over(l []api.DayRate, s api.Span) (api.Rat, bool) {
	if !span.Right(s) {
		return api.Rat{}, false
	}
	var sums []api.Rat // of the rates on days with the same one
	for days, rate := range steady(l) {
		if count := min(days.To, s.To) - max(days.From, s.From); count > 0 {
			sums = append(sums, ratio.Mul(rate, ratio.Of(count)))
		}
	}
	sum, errno := fitting(ratio.Sum(sums))
	return sum, errno == api.OK
}

// steady visits all days there are, in their order, as the longest spans on which the same rate is in force, with this rate.
func steady(l []api.DayRate) iter.Seq2[api.Span, api.Rat] {
	return func(yield func(days api.Span, rate api.Rat) bool) {
		rates := ratesByDay(l)
		from, rate := 0, zero
		for _, day := range slices.Sorted(maps.Keys(rates)) {
			if rates[day] == rate {
				continue
			}
			// Before day 0 there is nothing to visit.
			if from < day && !yield(api.Span{From: from, To: day}, rate) {
				return
			}
			from, rate = day, rates[day]
		}
		yield(api.Span{From: from, To: api.MaxDay + 1}, rate)
	}
}

// ratesByDay returns the rates of the right day rates: of several with the same day, that of the last one.
func ratesByDay(l []api.DayRate) map[int]api.Rat {
	rates := map[int]api.Rat{}
	for _, r := range l {
		if 0 <= r.Day && r.Day <= api.MaxDay && money.Fits(r.Rate) {
			rates[r.Day] = r.Rate
		}
	}
	return rates
}
