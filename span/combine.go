package span

import (
	"cmp"
	"iter"
	"slices"

	"tithing/api"
)

// combined returns the normal list of the days that are kept; has tells which of the lists have a day.
// A day that no list has must not be kept: such days have no end.
func combined(keeps func(has []bool) bool, lists ...[]api.Span) []api.Span {
	var normal []api.Span
	from, isOpen := 0, false
	for day, has := range changes(lists) {
		kept := keeps(has)
		if kept == isOpen {
			continue // spans that overlap or touch become one
		}
		if isOpen {
			normal = append(normal, api.Span{From: from, To: day})
		}
		from, isOpen = day, kept
	}
	return normal
}

// changes visits the days on which right spans of the lists begin, and those on which they have just ended, each of them
// once and in their order, with the lists that have the day. What it passes on as has is valid until the next day.
func changes(lists [][]api.Span) iter.Seq2[int, []bool] {
	return func(yield func(day int, has []bool) bool) {
		sorted := bounds(lists)
		depths := make([]int, len(lists)) // how many spans of each list have the day
		has := make([]bool, len(lists))
		for place, b := range sorted {
			depths[b.list] += b.step
			has[b.list] = depths[b.list] > 0
			// Before all bounds of a day are counted, the depths are those of no day.
			isLast := place+1 == len(sorted) || sorted[place+1].day > b.day
			if isLast && !yield(b.day, has) {
				return
			}
		}
	}
}

// bound is a day on which a span of a list begins (step 1) or has just ended (step -1); list is the list's place.
type bound struct{ day, list, step int }

// bounds returns the bounds of the right spans of the lists, in the order of their days.
func bounds(lists [][]api.Span) []bound {
	var found []bound
	for place, l := range lists {
		for _, s := range l {
			if Right(s) {
				found = append(found, bound{s.From, place, 1}, bound{s.To, place, -1})
			}
		}
	}
	slices.SortFunc(found, func(a, b bound) int { return cmp.Compare(a.day, b.day) })
	return found
}
