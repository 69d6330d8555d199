package span

import (
	"slices"
	"testing"

	"tithing/api"
)

// TestChangesStop checks that the visit of bounds can be left at any of them.
func TestChangesStop(t *testing.T) {
	lists := [][]api.Span{{{From: 5, To: 8}, {From: 2, To: 5}}, {{From: 5, To: 9}}}
	for count, want := range [][]int{{2}, {2, 5}, {2, 5, 8}, {2, 5, 8, 9}} {
		var days []int
		for day := range changes(lists) {
			days = append(days, day)
			if len(days) > count {
				break
			}
		}
		if !slices.Equal(days, want) {
			t.Errorf("%d and one more: %v, not %v", count, days, want)
		}
	}
}

// TestCombinedCounts combines other numbers of lists than two: the days that most of them have.
func TestCombinedCounts(t *testing.T) {
	lists := [][]api.Span{{{From: 0, To: 10}}, {{From: 5, To: 15}}, {{From: 12, To: 20}, {From: 2, To: 3}}}
	majority := func(has []bool) bool {
		count := 0
		for _, present := range has {
			if present {
				count++
			}
		}
		return 2*count > len(has)
	}
	for count, want := range [][]api.Span{nil, {{From: 0, To: 10}}, {{From: 5, To: 10}}, {{From: 2, To: 3}, {From: 5, To: 10}, {From: 12, To: 15}}} {
		if got := combined(majority, lists[:count]...); !slices.Equal(got, want) {
			t.Errorf("%d lists: %v, not %v", count, got, want)
		}
	}
}
