package money

import (
	"slices"
	"testing"

	"tithing/api"
)

// TestP4_4Greatest checks which places are visited, in which order, and that the visits can end early.
func TestP4_4Greatest(t *testing.T) {
	numbers := []api.Nat{"\x05", "\x01\x00", "", "\x05", "\x07", "\x01\x00"}
	order := []int{1, 5, 4, 0, 3, 2}
	for count := range len(order) + 1 {
		if got := slices.Collect(greatest(numbers, count)); !slices.Equal(got, order[:count]) {
			t.Errorf("the greatest %d: %v", count, got)
		}
	}
	var visited []int
	for place := range greatest(numbers, 4) {
		visited = append(visited, place)
		if place == 5 {
			break
		}
	}
	if !slices.Equal(visited, order[:2]) {
		t.Errorf("visited until 5: %v", visited)
	}
}
