package mono_test

import (
	"math/rand/v2"
	"slices"
	"testing"

	"tithing/api"
)

func TestP10_2Rising(t *testing.T) {
	for _, row := range []struct {
		text  string
		names []string
		want  bool
	}{
		{"own.a", []string{"a"}, true}, {"spouse.a", []string{"a"}, true}, {"own.a", nil, true}, {"own.a", []string{"b"}, true},
		{"$1", []string{"a", "b"}, true}, {"no", nil, true}, {"div(1, 0)", []string{"a"}, true},
		{"sub(1, own.a)", []string{"a"}, false}, {"sub(1, spouse.a)", []string{"a"}, false}, {"sub(1, fact.a)", []string{"a"}, true}, {"sub(1, prior.a)", []string{"a"}, true},
		{"sub(own.a, own.a)", []string{"a"}, false}, {"not(own.a)", []string{"a"}, false}, {"not(spouse.a)", []string{"a"}, false}, {"not(fact.a)", []string{"a"}, true},
		{"sub(1, own.a)", nil, true}, {"sub(1, own.a)", []string{}, true}, {"sub(1, own.a)", []string{"b", "c"}, true}, {"not(own.a)", []string{"aa", "A", ""}, true},
		{"sub(own.a, own.b)", []string{"a"}, true}, {"sub(own.a, own.b)", []string{"b"}, false}, {"sub(own.a, own.b)", []string{"a", "b"}, false}, {"sub(own.a, own.b)", []string{"b", "a"}, false},
		{"sub(own.a, spouse.a)", []string{"a"}, false}, {"sub(spouse.a, own.a)", []string{"a"}, false}, {"add(spouse.a, own.a)", []string{"a"}, true},
		{"sub(own.a, spouse.b)", []string{"a"}, true}, {"sub(own.a, spouse.b)", []string{"b"}, false}, {"mul(own.a, spouse.a)", []string{"a"}, false}, {"mul(own.a, fact.a)", []string{"a"}, false},
		{"sub(0, sub(0, own.a))", []string{"a"}, true}, {"if(less(own.b, 1), own.a, 0)", []string{"a"}, true}, {"if(less(own.b, 1), own.a, 0)", []string{"a", "b"}, false},
		{"rate.up(own.a)", []string{"a", "up"}, true}, {"rate.down(own.a)", []string{"a"}, false}, {"rate.down(own.a)", []string{"down"}, true}, {"rate.other(spouse.a)", []string{"a"}, false}, {"rate.other(fact.a)", []string{"a"}, true},
		{"add(own.a, sub(own.b, own.c))", []string{"a", "a", "b", "a", "", "B"}, true}, {"add(own.a, sub(own.b, own.c))", []string{"a", "a", "b", "", "c", "d"}, false},
	} {
		checkRising(t, parsed(row.text), someSchedules(), row.names, row.want)
	}
}

func TestP10_2None(t *testing.T) {
	for _, e := range noExpressions() {
		for _, names := range [][]string{nil, {}, {"a"}, {"b", ""}} {
			checkRising(t, e, someSchedules(), names, false)
		}
	}
}

func TestP10_2Samples(t *testing.T) {
	r := rand.New(rand.NewPCG(10, 2))
	found := map[bool]int{}
	for place := range 4000 {
		e := someOf(r, 1+place%20)
		for _, names := range [][]string{nil, {"a"}, {"b"}, {"a", "b"}, {"b", "a", "b"}, {"c", "b"}} {
			want := true
			for _, name := range names {
				for _, op := range []int{api.OpOwn, api.OpSpouse} {
					want = want && senseBy(e, op, name) < 2
				}
			}
			checkRising(t, e, someSchedules(), names, want)
			found[want]++
		}
	}
	if found[true] < 1000 || found[false] < 1000 {
		t.Errorf("some results are found too seldom: %v", found)
	}
}

// TestP10_4Steady checks that expressions of operators that keep the order rise in all names.
func TestP10_4Steady(t *testing.T) {
	r := rand.New(rand.NewPCG(10, 44))
	for place := range 1000 {
		e := someSteady(r, 1+place%api.MaxNodes)
		for _, n := range namesAsked {
			want := 0
			if slices.Contains(e, n) {
				want = 1
			}
			checkSense(t, e, nil, n.Op, n.Name, want)
		}
		checkRising(t, e, nil, []string{"a", "b", "c"}, true)
	}
}
