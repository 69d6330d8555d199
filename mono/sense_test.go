package mono_test

import (
	"fmt"
	"math"
	"math/rand/v2"
	"slices"
	"strings"
	"testing"

	"tithing/api"
	"tithing/expr"
	"tithing/ratio"
)

// operandTexts are operands of all senses in own.a: literals and others that do not depend on it, rising, falling and unknown ones.
var operandTexts = []string{
	"$0", "$3/2", "$-1", "0d", "2d", "-2d", "0", "5", "-1/3", "no", "yes",
	"own.b", "fact.a", "prior.a", "spouse.a", "add(1, 2)", "sub(0, 1)", "rate.up(1)",
	"own.a", "add(own.a, 1)", "sub(0, own.a)", "mul(own.a, -1)", "mul(own.a, own.a)", "not(own.a)",
}

// fewTexts are some of them, at least one of each sense.
var fewTexts = []string{"$-1", "0", "yes", "own.b", "fact.a", "own.a", "up[1](own.a)", "sub(0, own.a)", "equal(own.a, 1)"}

// nodesWith returns a node with each operator that has so many operands, and for OpRate one with each of some schedules.
func nodesWith(operands int) []api.Node {
	switch operands {
	case 1:
		l := []api.Node{{Op: api.OpNot}, {Op: api.OpDown, Num: num("2")}, {Op: api.OpUp, Num: num("1/3")}, {Op: api.OpNear, Num: num("1")}}
		for _, name := range slices.Concat(rightNames, wrongNames) {
			l = append(l, api.Node{Op: api.OpRate, Name: name})
		}
		return l
	case 2:
		var l []api.Node
		for _, op := range []int{api.OpAdd, api.OpSub, api.OpMul, api.OpDiv, api.OpMin, api.OpMax, api.OpLess, api.OpEqual, api.OpAnd, api.OpOr} {
			l = append(l, api.Node{Op: op})
		}
		return l
	}
	return []api.Node{{Op: api.OpIf}}
}

// namesAsked are names for operators, of which some occur in the expressions of these tests, and others do not.
var namesAsked = []api.Node{
	{Op: api.OpOwn, Name: "a"}, {Op: api.OpOwn, Name: "b"}, {Op: api.OpOwn, Name: "c"}, {Op: api.OpFact, Name: "a"}, {Op: api.OpFact, Name: "b"},
	{Op: api.OpPrior, Name: "a"}, {Op: api.OpSpouse, Name: "a"}, {Op: api.OpOwn, Name: "up"}, {Op: api.OpOwn, Name: ""}, {Op: api.OpSpouse, Name: "A"},
}

// checkAll checks the senses of an expression in all of namesAsked.
func checkAll(t *testing.T, e []api.Node) {
	t.Helper()
	schedules := someSchedules()
	for _, n := range namesAsked {
		checkSense(t, e, schedules, n.Op, n.Name, senseBy(e, n.Op, n.Name))
	}
}

// TestP10_1Senses checks the senses that operands of each sense give to each operator.
func TestP10_1Senses(t *testing.T) {
	for _, row := range []struct {
		form string // R, F and U stand for operands that rise, fall, or whose sense is not known
		want int
	}{
		{"R", 1}, {"F", 2}, {"U", 3},
		{"add(R, 1)", 1}, {"add(1, R)", 1}, {"add(F, 1)", 2}, {"add(R, R)", 1}, {"add(F, F)", 2}, {"add(R, F)", 3}, {"add(F, R)", 3}, {"add(U, 1)", 3}, {"add(U, R)", 3}, {"add(F, U)", 3},
		{"min(R, own.b)", 1}, {"min(F, 1)", 2}, {"min(R, F)", 3}, {"min(F, F)", 2}, {"min(1, U)", 3},
		{"max(R, R)", 1}, {"max(1, F)", 2}, {"max(F, R)", 3}, {"max(U, U)", 3},
		{"sub(R, 1)", 1}, {"sub(1, R)", 2}, {"sub(F, 1)", 2}, {"sub(1, F)", 1}, {"sub(R, R)", 3}, {"sub(F, F)", 3}, {"sub(R, F)", 1}, {"sub(F, R)", 2}, {"sub(U, 1)", 3}, {"sub(1, U)", 3}, {"sub(U, R)", 3}, {"sub(F, U)", 3},
		{"mul(R, 2)", 1}, {"mul(2d, R)", 1}, {"mul($-2, R)", 2}, {"mul(R, -2)", 2}, {"mul(F, -2d)", 1}, {"mul(1/2, F)", 2}, {"mul(0, R)", 1}, {"mul(F, $0)", 2}, {"mul(-1, U)", 3}, {"mul(U, 0)", 3},
		{"mul(yes, R)", 3}, {"mul(R, no)", 3}, {"mul(own.b, R)", 3}, {"mul(R, fact.x)", 3}, {"mul(R, R)", 3}, {"mul(add(1, 1), R)", 3}, {"mul(R, down[1](2))", 3},
		{"div(R, 2)", 1}, {"div(R, $-2)", 2}, {"div(F, 2d)", 2}, {"div(F, -1/2)", 1}, {"div(U, 2)", 3}, {"div(R, 0)", 3}, {"div(F, $0)", 3}, {"div(R, 0d)", 3},
		{"div(R, yes)", 3}, {"div(2, R)", 3}, {"div(-2, F)", 3}, {"div(R, own.b)", 3}, {"div(R, R)", 3}, {"div(R, add(1, 1))", 3}, {"div(0, R)", 3},
		{"if(yes, R, 1)", 1}, {"if(no, 1, R)", 1}, {"if(own.b, F, 1)", 2}, {"if(yes, R, F)", 3}, {"if(no, R, R)", 1}, {"if(fact.a, F, F)", 2}, {"if(yes, 1, U)", 3},
		{"if(R, 1, 1)", 3}, {"if(F, 1, 2)", 3}, {"if(U, R, R)", 3}, {"if(less(1, R), R, 0)", 3},
		{"down[1](R)", 1}, {"down[1/2](F)", 2}, {"down[1](U)", 3}, {"up[1](R)", 1}, {"up[3](F)", 2}, {"up[1](U)", 3}, {"near[1](R)", 1}, {"near[1](F)", 2}, {"near[1/100](U)", 3},
		{"rate.up(R)", 1}, {"rate.up(F)", 2}, {"rate.up(U)", 3}, {"rate.flat(R)", 1}, {"rate.unit(F)", 2},
		{"rate.down(R)", 3}, {"rate.empty(R)", 3}, {"rate.late(F)", 3}, {"rate.other(R)", 3},
		{"less(R, 1)", 3}, {"less(1, F)", 3}, {"equal(R, 1)", 3}, {"equal(F, F)", 3}, {"and(R, yes)", 3}, {"or(no, F)", 3}, {"not(R)", 3}, {"not(not(F))", 3},
		{"less(1, own.b)", 0}, {"div(1, 0)", 0}, {"rate.other(1)", 0}, {"not(spouse.a)", 0}, {"mul(own.b, own.b)", 0}, {"if(prior.a, fact.a, spouse.a)", 0}, {"sub(own.a_, own.aa)", 0},
	} {
		for _, operands := range []*strings.Replacer{
			strings.NewReplacer("R", "own.a", "F", "sub(0, own.a)", "U", "div(1, own.a)"),
			strings.NewReplacer("R", "max(own.a, 3)", "F", "div(own.a, -5)", "U", "mul(own.b, own.a)"),
		} {
			checkSense(t, parsed(operands.Replace(row.form)), someSchedules(), api.OpOwn, "a", row.want)
		}
	}
}

// TestP10_1All checks all operators with all operands of some lists.
func TestP10_1All(t *testing.T) {
	for _, first := range operandTexts {
		checkAll(t, parsed(first))
		for _, n := range nodesWith(1) {
			checkAll(t, append(parsed(first), n))
		}
		for _, second := range operandTexts {
			for _, n := range nodesWith(2) {
				checkAll(t, append(append(parsed(first), parsed(second)...), n))
			}
		}
	}
	for _, first := range fewTexts {
		for _, second := range fewTexts {
			for _, third := range fewTexts {
				checkAll(t, slices.Concat(parsed(first), parsed(second), parsed(third), nodesWith(3)))
			}
		}
	}
}

// TestP10_1Names checks that a name is one for its operator only, and what is asked for a name that is none.
func TestP10_1Names(t *testing.T) {
	for op, prefix := range map[int]string{api.OpFact: "fact.", api.OpOwn: "own.", api.OpPrior: "prior.", api.OpSpouse: "spouse."} {
		for other := api.OpFact; other <= api.OpSpouse; other++ {
			want := 0
			if other == op {
				want = 1
			}
			checkSense(t, parsed(prefix+"x"), nil, other, "x", want)
			checkSense(t, parsed("sub(1, "+prefix+"x)"), nil, other, "x", 2*want)
		}
		for _, name := range []string{"", "X", "x ", "y", "xx", "1", strings.Repeat("x", 21), strings.Repeat("x", 1<<16), "\xff", prefix + "x"} {
			checkSense(t, parsed(prefix+"x"), nil, op, name, 0)
			checkSense(t, parsed("$1"), nil, op, name, 0)
			checkSense(t, parsed("rate.x(1)"), nil, op, name, 0)
		}
		// A schedule is no name for these operators.
		checkSense(t, parsed("rate.x(1)"), []api.Schedule{schedule("x", "0", "1")}, op, "x", 0)
		longest := strings.Repeat("x", api.MaxName)
		checkSense(t, parsed(prefix+longest), nil, op, longest, 1)
	}
}

// TestP10_1Operators checks operators that have no names, or are none.
func TestP10_1Operators(t *testing.T) {
	for _, op := range []int{math.MinInt, -6, -1, 0, 1, 2, 3, 4, 9, 10, 15, 21, 23, 24, 25, 6 + 256, 6 + 1<<32, math.MaxInt} {
		for _, text := range []string{"own.a", "$1", "rate.a(1)", "add(1, fact.a)", "not(yes)"} {
			for _, name := range []string{"a", "b", ""} {
				checkSense(t, parsed(text), []api.Schedule{schedule("a", "0", "1")}, op, name, 3)
			}
		}
		checkSense(t, nil, nil, op, "a", 3)
	}
}

// noExpressions returns lists of nodes that are no expressions.
func noExpressions() [][]api.Node {
	one, own := api.Node{Op: api.OpNumber, Num: num("1")}, api.Node{Op: api.OpOwn, Name: "a"}
	return [][]api.Node{
		nil, {}, {{}}, {{Op: 25}}, {{Op: -6, Name: "a"}}, {{Op: math.MaxInt}}, {{Op: api.OpAdd}}, {own, {Op: api.OpAdd}}, {own, own}, {own, one, {Op: api.OpIf}},
		{{Op: api.OpOwn}}, {{Op: api.OpOwn, Name: "A"}}, {{Op: api.OpOwn, Name: strings.Repeat("a", 21)}}, {{Op: api.OpOwn, Name: "a", Num: num("1")}}, {own, {Op: api.OpRate}},
		{{Op: api.OpNumber}}, {{Op: api.OpNumber, Num: api.Rat{Num: "\x02", Den: "\x02"}}}, {{Op: api.OpCash, Num: num("1"), Name: "a"}}, {{Op: api.OpTruth, Num: num("2")}},
		{own, {Op: api.OpDown}}, {own, {Op: api.OpUp, Num: num("0")}}, {own, {Op: api.OpNear, Num: num("-1")}}, {one, own, {Op: api.OpAdd, Name: "a"}}, {one, own, {Op: api.OpSub, Num: num("1")}},
		append([]api.Node{own}, slices.Repeat([]api.Node{{Op: api.OpUp, Num: num("1")}}, 60)...),
		slices.Repeat([]api.Node{own}, 5000),
	}
}

func TestP10_1None(t *testing.T) {
	for _, e := range noExpressions() {
		if expr.Check(e) == api.OK {
			t.Fatalf("%v is an expression", e)
		}
		for _, n := range append(namesAsked, e[:min(1, len(e))]...) {
			checkSense(t, e, someSchedules(), n.Op, n.Name, 3)
		}
	}
	longest := slices.Concat(parsed("own.a"), slices.Repeat([]api.Node{{Op: api.OpUp, Num: num("1")}}, 59))
	checkSense(t, longest, nil, api.OpOwn, "a", 1)
}

// TestP10_1Schedules checks which schedules rise, and that only the first one with the name matters.
func TestP10_1Schedules(t *testing.T) {
	most := num("2582249878086908589655919172003011874329705792829223512830659356540647622016841194629645353280137831435903171972747493375") // 2^400 - 1
	eight := []string{"0", "0", "1", "1", "2", "0", "3", "1/2", "4", "7", "5", "0", "6", "1", "7", "0"}
	for _, row := range []struct {
		s    api.Schedule
		want int
	}{
		{schedule("x", "0", "0"), 1}, {schedule("x", "0", "1"), 1}, {schedule("x", eight...), 1},
		{schedule("x", "0", "3", "1/2", "2", "7", "0"), 1}, // the rates may fall, if the value does not
		{schedule("x", "0", "-1"), 3}, {schedule("x", "0", "1", "5", "2", "6", "-1/1000"), 3}, {schedule("x", "0", "-1/9", "5", "2"), 3},
		{schedule("x"), 3}, {schedule("x", "1", "1"), 3}, {schedule("x", "0", "1", "0", "2"), 3}, {schedule("x", "0", "1", "5", "2", "4", "3"), 3},
		{schedule("x", append(eight, "8", "1")...), 3},
		{api.Schedule{Name: "x", Brackets: []api.Bracket{{From: num("0")}}}, 3},
		{api.Schedule{Name: "x", Brackets: []api.Bracket{{Rate: num("1")}}}, 3},
		{api.Schedule{Name: "x", Brackets: []api.Bracket{{From: num("0"), Rate: most}}}, 1},
		{api.Schedule{Name: "x", Brackets: []api.Bracket{{From: num("0"), Rate: ratio.Add(most, num("1"))}}}, 3},
	} {
		other := 4 - row.want // another schedule with the name says the opposite
		second := map[int]api.Schedule{1: schedule("x", "0", "1"), 3: schedule("x", "0", "-1")}[other]
		for _, l := range [][]api.Schedule{{row.s}, {row.s, second}, {schedule("y", "0", "-1"), {}, row.s, second}, {{Name: "X"}, schedule("xx", "0", "1"), row.s}} {
			checkSense(t, parsed("rate.x(own.a)"), l, api.OpOwn, "a", row.want)
			checkSense(t, parsed("rate.x(own.a)"), l, api.OpOwn, "b", 0)
			checkSense(t, parsed("add(own.x, rate.x(own.a))"), l, api.OpOwn, "x", 1)
			checkSense(t, parsed("if(fact.b, rate.x(own.a), own.a)"), l, api.OpOwn, "a", row.want)
			checkRising(t, parsed("rate.x(own.a)"), l, []string{"a"}, row.want == 1)
		}
		checkSense(t, parsed("add(rate.x(own.a), rate.y(own.a))"), []api.Schedule{schedule("y", "0", "1"), row.s}, api.OpOwn, "a", row.want)
	}
}

func TestP10_1Samples(t *testing.T) {
	r := rand.New(rand.NewPCG(10, 1))
	found := map[int]int{}
	for place := range 3000 {
		e := someOf(r, 1+place%api.MaxNodes)
		checkAll(t, e)
		found[senseBy(e, api.OpOwn, "a")]++
	}
	for sense := range 4 {
		if found[sense] < 150 {
			t.Errorf("the sense %d is found only %d times", sense, found[sense])
		}
	}
}

// TestP10_1Work checks that long lists of schedules and names do not matter.
func TestP10_1Work(t *testing.T) {
	var schedules []api.Schedule
	var names []string
	for place := range 50000 {
		schedules = append(schedules, schedule(fmt.Sprint("s", place), "0", "1"))
		names = append(names, fmt.Sprint("n", place))
	}
	schedules, names = append(schedules, schedule("x", "0", "1")), append(names, "a")
	e := slices.Concat(parsed("own.a"), slices.Repeat([]api.Node{{Op: api.OpRate, Name: "x"}}, 59))
	checkSense(t, e, schedules, api.OpOwn, "a", 1)
	checkRising(t, e, schedules, names, true)
	checkRising(t, parsed("sub(0, own.n49999)"), schedules, names, false)
}
