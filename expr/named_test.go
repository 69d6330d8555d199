package expr

import (
	"slices"
	"testing"

	"tithing/api"
)

// TestP7_4Named checks which nodes are visited, and that a loop can be left after each of them.
func TestP7_4Named(t *testing.T) {
	e := []api.Node{{Op: api.OpOwn, Name: "b"}, {Op: api.OpNumber, Num: one}, {Op: api.OpFact, Name: "a"}, {Op: api.OpIf}, {Op: api.OpRate, Name: "b"}}
	want := []int{0, 2, 4}
	for visits := range want {
		var places []int
		for at, n := range named(e) {
			if n != e[at] {
				t.Errorf("node %d is %v", at, n)
			}
			places = append(places, at)
			if len(places) > visits {
				break
			}
		}
		if !slices.Equal(places, want[:visits+1]) {
			t.Errorf("%d visits: %v", visits+1, places)
		}
	}
}
