package mono_test

import (
	"math/rand/v2"
	"slices"
	"testing"

	"tithing/api"
	"tithing/eval"
	"tithing/mono"
	"tithing/ratio"
)

// envWith returns an environment in which one name has a value, and the others have those of links.
func envWith(links []api.Link, schedules []api.Schedule, name api.Node, value api.Rat) api.Env {
	first := api.Link{Op: name.Op, Name: name.Name, Value: api.Outcome{Value: value}}
	return api.Env{Links: append([]api.Link{first}, links...), Schedules: schedules}
}

// agrees reports whether values for a lesser and a greater amount are as the sense says.
func agrees(sense int, lesser, greater api.Rat) bool {
	order := ratio.Cmp(lesser, greater)
	switch sense {
	case 0:
		return order == 0
	case 1:
		return order <= 0
	case 2:
		return order >= 0
	}
	return true
}

// someLinks returns a value for each of the names of someOf.
func someLinks(r *rand.Rand) []api.Link {
	var links []api.Link
	for op := api.OpFact; op <= api.OpSpouse; op++ {
		for _, name := range []string{"a", "b"} {
			links = append(links, api.Link{Op: op, Name: name, Value: api.Outcome{Value: pick(r, amounts...)}})
		}
	}
	return links
}

func TestP10_3(t *testing.T) {
	r := rand.New(rand.NewPCG(10, 3))
	compared := map[int]int{} // pairs of values, by the sense
	moved := map[int]int{}    // those of which the values are different
	schedules := someSchedules()
	for place := range 8000 {
		e := someOf(r, 1+place%30)
		links := someLinks(r)
		for _, n := range []api.Node{{Op: api.OpOwn, Name: "a"}, {Op: api.OpFact, Name: "a"}, {Op: api.OpSpouse, Name: "b"}} {
			x, y := pick(r, amounts...), pick(r, amounts...)
			if ratio.Cmp(x, y) > 0 {
				x, y = y, x
			}
			sense := mono.Sense(e, schedules, n.Op, n.Name)
			before, after := eval.Eval(e, envWith(links, schedules, n, x)), eval.Eval(e, envWith(links, schedules, n, y))
			if before.Err != api.OK || after.Err != api.OK {
				continue
			}
			compared[sense]++
			if before != after {
				moved[sense]++
			}
			if !agrees(sense, before.Value, after.Value) {
				t.Errorf("%.300s has the sense %d in %d %s, but the values %s and %s", written(e), sense, n.Op, n.Name, ratio.Text(before.Value), ratio.Text(after.Value))
			}
		}
	}
	if compared[0] < 1000 || moved[1] < 300 || moved[2] < 300 || moved[3] < 300 {
		t.Errorf("too few values are compared: %v, or different: %v", compared, moved)
	}
}

// turned returns the expression that is the difference of zero and e.
func turned(zero string, e []api.Node) []api.Node {
	return slices.Concat(parsed(zero), e, []api.Node{{Op: api.OpSub}})
}

func TestP10_4Turned(t *testing.T) {
	r := rand.New(rand.NewPCG(10, 4))
	schedules := someSchedules()
	for place := range 400 {
		e := someOf(r, 1+place%50)
		for _, n := range namesAsked {
			sense := mono.Sense(e, schedules, n.Op, n.Name)
			for _, zero := range []string{"$0", "0d", "0", "mul($0, 1d)", "fact.zero"} {
				checkSense(t, turned(zero, e), schedules, n.Op, n.Name, turnBy(sense))
				checkSense(t, turned("$0", turned(zero, e)), schedules, n.Op, n.Name, sense)
			}
		}
	}
}

// exchanged returns an expression in which some operands of add, min and max have the other order.
func exchanged(r *rand.Rand, e []api.Node) []api.Node {
	parts := partsOf(e)
	for place, part := range parts {
		parts[place] = exchanged(r, part)
	}
	last := e[len(e)-1]
	if slices.Contains([]int{api.OpAdd, api.OpMin, api.OpMax}, last.Op) && r.IntN(3) > 0 {
		slices.Reverse(parts)
	}
	return append(slices.Concat(parts...), last)
}

func TestP10_4Order(t *testing.T) {
	r := rand.New(rand.NewPCG(10, 41))
	different := 0
	schedules := someSchedules()
	for place := range 2000 {
		e := someOf(r, 1+place%api.MaxNodes)
		made := exchanged(r, e)
		for _, n := range namesAsked {
			checkSense(t, made, schedules, n.Op, n.Name, mono.Sense(e, schedules, n.Op, n.Name))
		}
		if !slices.Equal(made, e) {
			different++
		}
	}
	if different < 1000 {
		t.Errorf("only %d expressions have been changed", different)
	}
}
