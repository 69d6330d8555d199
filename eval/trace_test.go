package eval_test

import (
	"math/rand/v2"
	"slices"
	"strings"
	"testing"

	"tithing/api"
	"tithing/eval"
	"tithing/expr"
)

// changed returns an expression in which some nodes are others with as many operands, whatever their types are, and often with names that stand for nothing.
func changed(r *rand.Rand, e []api.Node, env api.Env) []api.Node {
	made := slices.Clone(e)
	for range 1 + r.IntN(4) {
		at := r.IntN(len(made))
		op := 1 + r.IntN(api.OpRate)
		if operandsBy(op) == operandsBy(made[at].Op) {
			l := nodesOf(op, env)
			if r.IntN(3) == 0 {
				l = l[max(0, len(l)-2):]
			}
			made[at] = l[r.IntN(len(l))]
		}
	}
	return made
}

func TestP9_2Trace(t *testing.T) {
	r := rand.New(rand.NewPCG(9, 2))
	typed, all := typedEnv(r), someEnv()
	both := api.Env{Links: slices.Concat(typed.Links, all.Links), Schedules: slices.Concat(typed.Schedules, all.Schedules)}
	found := map[api.Errno]int{}
	for _, s := range someSamples(1, 2000) {
		for _, e := range [][]api.Node{s.nodes, changed(r, s.nodes, both)} {
			want := traceBy(e, both)
			checkTrace(t, e, both, want, want[len(want)-1])
			for _, o := range want {
				found[o.Err]++
			}
		}
	}
	for _, errno := range []api.Errno{api.OK, api.ErrRange, api.ErrForm, api.ErrName, api.ErrType, api.ErrZero, api.ErrCycle} {
		if found[errno] < 10 {
			t.Errorf("the error %d is found only %d times", errno, found[errno])
		}
	}
}

// TestP9_2TraceAll checks that Trace returns the outcomes of operands that are not taken, too.
func TestP9_2TraceAll(t *testing.T) {
	env := api.Env{Links: []api.Link{{Op: api.OpOwn, Name: "a", Value: fail(api.ErrCycle)}}}
	e := parsed("if(yes, if(no, 2, 3), div(own.a, sub(1, 1)))")
	want := []api.Outcome{value("1"), value("0"), value("2"), value("3"), value("3"), fail(api.ErrCycle), value("1"), value("1"), value("0"), fail(api.ErrCycle), value("3")}
	checkTrace(t, e, env, want, value("3"))
}

// TestP9_2None checks lists of nodes that are no expressions.
func TestP9_2None(t *testing.T) {
	r := rand.New(rand.NewPCG(9, 22))
	env := typedEnv(r)
	lists := [][]api.Node{
		nil, {}, {{}}, {{Op: api.OpAdd}}, {{Op: api.OpOwn}}, {{Op: api.OpOwn, Name: "A"}}, {{Op: api.OpFact, Name: strings.Repeat("a", 21)}}, {{Op: api.OpTruth, Num: num("2")}}, {{Op: api.OpNumber, Num: long()[0]}}, {{Op: api.OpNumber}},
		slices.Repeat([]api.Node{{Op: api.OpNumber, Num: num("1")}}, 2),
		slices.Concat(parsed("1"), slices.Repeat([]api.Node{{Op: api.OpUp, Num: num("1")}}, 60)),
		slices.Repeat([]api.Node{{Op: api.OpNumber, Num: num("1")}}, 5000),
	}
	for _, s := range someSamples(2, 500) {
		at := r.IntN(len(s.nodes))
		lists = append(lists, s.nodes[:at], append(slices.Clone(s.nodes), s.nodes[at]), slices.Concat(s.nodes[:at], []api.Node{{Op: 25}}, s.nodes[at:]))
	}
	count := 0
	for _, e := range lists {
		if expr.Check(e) != api.OK {
			checkTrace(t, e, env, nil, fail(api.ErrForm))
			count++
		}
	}
	if count < 1000 {
		t.Errorf("only %d lists are no expressions", count)
	}
	longest := slices.Concat(parsed("1/3"), slices.Repeat([]api.Node{{Op: api.OpUp, Num: num("1")}}, 59))
	checkEval(t, longest, env, value("1"))
}

// TestP9_2Memory checks that what Trace returns is new memory.
func TestP9_2Memory(t *testing.T) {
	e := parsed("add(1, 2)")
	first := eval.Trace(e, api.Env{})
	clear(first)
	checkEval(t, e, api.Env{}, value("3"))
}

func TestP9_3(t *testing.T) {
	different := outcomes()
	for a, x := range different {
		for b, y := range different {
			y.Value.Num, y.Value.Den = api.Nat(strings.Clone(string(y.Value.Num))), api.Nat(strings.Clone(string(y.Value.Den)))
			if got := eval.Same(x, y); got != (a == b) {
				t.Errorf("Same of %.200v and %.200v: %t", x, y, got)
			}
		}
	}
}
