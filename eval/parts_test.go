package eval_test

import (
	"math/rand/v2"
	"slices"
	"testing"

	"tithing/api"
	"tithing/check"
	"tithing/eval"
	"tithing/expr"
)

// beginOf returns the index of the first node of the expression that ends with the node at an index.
func beginOf(e []api.Node, at int) int {
	operands, _ := expr.Args(e)
	for len(operands[at]) > 0 {
		at = operands[at][0]
	}
	return at
}

func TestP9_4Parts(t *testing.T) {
	r := rand.New(rand.NewPCG(9, 4))
	env := typedEnv(r)
	for _, s := range someSamples(3, 500) {
		e := changed(r, s.nodes, env)
		for at, o := range eval.Trace(e, env) {
			checkEval(t, e[beginOf(e, at):at+1], env, o)
		}
	}
}

// TestP9_4If checks that the operand of OpIf that is not taken does not matter.
func TestP9_4If(t *testing.T) {
	r := rand.New(rand.NewPCG(9, 41))
	env := typedEnv(r)
	replaced := 0
	for _, s := range someSamples(4, 1500) {
		trace := eval.Trace(s.nodes, env)
		operands, _ := expr.Args(s.nodes)
		for at, n := range s.nodes {
			if n.Op != api.OpIf || trace[operands[at][0]].Err != api.OK {
				continue
			}
			idle := operands[at][1]
			if trace[operands[at][0]] == value("1") {
				idle = operands[at][2]
			}
			for _, text := range []string{"0", "div(1, 0)", "fact.none", "rate.none(no)", "not(5)"} {
				made := slices.Concat(s.nodes[:beginOf(s.nodes, idle)], parsed(text), s.nodes[idle+1:])
				if len(made) <= api.MaxNodes {
					checkEval(t, made, env, trace[len(trace)-1])
					replaced++
				}
			}
		}
	}
	if replaced < 1000 {
		t.Errorf("only %d operands have been replaced", replaced)
	}
}

// TestP9_4Others checks that links and schedules of names that do not occur, and later ones, do not matter.
func TestP9_4Others(t *testing.T) {
	r := rand.New(rand.NewPCG(9, 42))
	all := typedEnv(r)
	for _, s := range someSamples(5, 1000) {
		e := changed(r, s.nodes, all)
		want := eval.Eval(e, all)
		var needed, useless, later api.Env
		for _, l := range all.Links {
			if slices.Contains(e, api.Node{Op: l.Op, Name: l.Name}) {
				needed.Links = append(needed.Links, l)
				later.Links = append(later.Links, api.Link{Op: l.Op, Name: l.Name, Value: fail(api.ErrCycle)})
			} else {
				useless.Links = append(useless.Links, api.Link{Op: l.Op, Name: l.Name, Value: fail(api.ErrLate)})
			}
		}
		for _, n := range e {
			useless.Links = append(useless.Links, api.Link{Op: n.Op + 24, Name: n.Name}, api.Link{Op: n.Op, Name: n.Name + "_"}, api.Link{Op: api.OpRate, Name: n.Name, Value: value("3")})
		}
		for _, s := range all.Schedules {
			if slices.Contains(e, api.Node{Op: api.OpRate, Name: s.Name}) {
				needed.Schedules = append(needed.Schedules, s)
				later.Schedules = append(later.Schedules, schedule(s.Name, "0", "7"), api.Schedule{Name: s.Name})
			} else {
				useless.Schedules = append(useless.Schedules, api.Schedule{Name: s.Name})
			}
		}
		checkEval(t, e, needed, want)
		checkEval(t, e, api.Env{Links: slices.Concat(useless.Links, needed.Links, later.Links, useless.Links), Schedules: slices.Concat(useless.Schedules, needed.Schedules, later.Schedules)}, want)
	}
}

// TestP9_4First checks that the first one of several links, and of several schedules, is the one that matters.
func TestP9_4First(t *testing.T) {
	for _, o := range outcomes() {
		for _, second := range fewOutcomes() {
			for op := api.OpFact; op <= api.OpSpouse; op++ {
				env := api.Env{Links: []api.Link{{Op: op, Name: "a", Value: o}, {Op: op, Name: "a", Value: second}, {Op: op, Name: "b", Value: second}}}
				checkEval(t, []api.Node{{Op: op, Name: "a"}}, env, countBy(o))
			}
		}
	}
	env := api.Env{Schedules: []api.Schedule{schedule("b", "0", "3"), schedule("a", "0", "5"), schedule("a", "0", "7"), {Name: "b"}}}
	checkEval(t, parsed("rate.a(2)"), env, value("10"))
	checkEval(t, parsed("rate.b(2)"), env, value("6"))
	checkEval(t, parsed("rate.c(2)"), env, fail(api.ErrName))
}

func TestP9_5(t *testing.T) {
	r := rand.New(rand.NewPCG(9, 5))
	found := map[api.Errno]int{}
	var env api.Env
	for place, s := range someSamples(6, 4000) {
		if place%100 == 0 {
			env = typedEnv(r)
		}
		if is, errno := check.Type(typedSigs(), s.nodes); is != s.is || errno != api.OK {
			t.Fatalf("%.300s has another type", written(s.nodes))
		}
		o := eval.Eval(s.nodes, env)
		found[o.Err]++
		switch o.Err {
		case api.OK:
			if !check.Value(s.is, o.Value) {
				t.Errorf("%.300s: %v is no value of %v", written(s.nodes), o.Value, s.is)
			}
		case api.ErrRange, api.ErrZero:
			if o.Value != (api.Rat{}) {
				t.Errorf("%.300s: %v with the error %d", written(s.nodes), o.Value, o.Err)
			}
		default:
			t.Errorf("%.300s: %d", written(s.nodes), o.Err)
		}
	}
	if found[api.OK] < 1000 || found[api.ErrRange] < 50 || found[api.ErrZero] < 50 {
		t.Errorf("some outcomes are found too seldom: %v", found)
	}
}

func TestP9_6(t *testing.T) {
	r := rand.New(rand.NewPCG(9, 6))
	env := typedEnv(r)
	replaced := 0
	for _, s := range someSamples(7, 3000) {
		e := changed(r, s.nodes, env)
		for _, of := range allTypes {
			name := nameOf(of)
			if !slices.Contains(e, api.Node{Op: api.OpOwn, Name: name}) {
				continue
			}
			by := changed(r, someOf(r, of, 1+r.IntN(5)), env)
			if made, errno := expr.Subst(e, name, by); errno == api.OK {
				link := api.Link{Op: api.OpOwn, Name: name, Value: eval.Eval(by, env)}
				linked := api.Env{Links: append([]api.Link{link}, env.Links...), Schedules: env.Schedules}
				checkEval(t, made, env, eval.Eval(e, linked))
				replaced++
			}
		}
	}
	if replaced < 1000 {
		t.Errorf("only %d names have been replaced", replaced)
	}
}
