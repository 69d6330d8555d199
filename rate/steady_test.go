package rate

import (
	"slices"
	"testing"

	"tithing/api"
	"tithing/ratio"
)

// TestSteadyStop checks which spans are visited, and that the visits can end at any of them.
func TestSteadyStop(t *testing.T) {
	l := []api.DayRate{{Day: 9, Rate: ratio.Of(2)}, {Day: 5, Rate: ratio.Of(1)}, {Day: 7, Rate: ratio.Of(1)}, {Day: 3, Rate: zero}}
	spans := []api.Span{{From: 0, To: 5}, {From: 5, To: 9}, {From: 9, To: api.MaxDay + 1}}
	for last := range spans {
		var visited []api.Span
		for days, rate := range steady(l) {
			if rate != ratio.Of(len(visited)) {
				t.Errorf("the rate of %v: %s", days, ratio.Text(rate))
			}
			visited = append(visited, days)
			if days == spans[last] {
				break
			}
		}
		if !slices.Equal(visited, spans[:last+1]) {
			t.Errorf("visited until %v: %v", spans[last], visited)
		}
	}
}

// TestSteadyFirstDay checks that nothing is visited before day 0, and that all days are visited, whatever the list is.
func TestSteadyFirstDay(t *testing.T) {
	all := api.Span{From: 0, To: api.MaxDay + 1}
	for _, l := range [][]api.DayRate{nil, {{Day: 0, Rate: zero}}, {{Day: 0, Rate: ratio.Of(1)}}, {{Day: -5, Rate: ratio.Of(1)}}} {
		var visited []api.Span
		for days := range steady(l) {
			visited = append(visited, days)
		}
		if !slices.Equal(visited, []api.Span{all}) {
			t.Errorf("%v: %v", l, visited)
		}
	}
}
