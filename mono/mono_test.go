package mono_test

import (
	"reflect"
	"slices"
	"testing"

	"tithing/api"
	"tithing/expr"
	"tithing/mono"
	"tithing/ratio"
)

// num returns the amount of a text in lowest terms.
func num(s string) api.Rat {
	a, ok := ratio.Parse(s)
	if !ok {
		panic("no amount in lowest terms: " + s)
	}
	return a
}

// parsed returns the expression of a text.
func parsed(s string) []api.Node {
	e, errno := expr.Parse(s)
	if errno != api.OK {
		panic("no expression: " + s)
	}
	return e
}

// written returns the text of an expression.
func written(e []api.Node) string {
	s, errno := expr.Text(e)
	if errno != api.OK {
		return "no expression"
	}
	return s
}

// schedule returns a schedule with brackets whose From and Rate take turns.
func schedule(name string, numbers ...string) api.Schedule {
	s := api.Schedule{Name: name}
	for place := 0; place < len(numbers); place += 2 {
		s.Brackets = append(s.Brackets, api.Bracket{From: num(numbers[place]), Rate: num(numbers[place+1])})
	}
	return s
}

// someSchedules returns schedules of which up, flat and unit are right and rising; others are right, or not, and follow others with their names.
func someSchedules() []api.Schedule {
	unit := schedule("unit", "0", "1/7")
	unit.Unit = api.Unit{Money: 9, Days: -9} // it is no unit, and does not matter
	return []api.Schedule{
		schedule("up", "0", "1/10", "5", "1/5"),
		schedule("flat", "0", "0", "10", "0"),
		schedule("down", "0", "1/10", "5", "-1/5"),
		{Name: "empty"},
		schedule("late", "1", "1"),
		unit,
		schedule("empty", "0", "1"),
		schedule("down", "0", "1"),
		schedule("up", "0", "-1"),
		{Name: "up"},
	}
}

// rightNames are the names of the schedules of someSchedules of which the first one is right and rising, wrongNames the others and one without a schedule.
var (
	rightNames = []string{"up", "flat", "unit"}
	wrongNames = []string{"down", "empty", "late", "other"}
)

// joinBy returns the join of two senses.
func joinBy(a, b int) int {
	switch {
	case a == 0:
		return b
	case b == 0, a == b:
		return a
	}
	return 3
}

func turnBy(s int) int { return []int{0, 2, 1, 3}[s] }

// partsOf returns the operands of the last node of an expression.
func partsOf(e []api.Node) [][]api.Node {
	operands, _ := expr.Args(e)
	var parts [][]api.Node
	begin := 0
	for _, at := range operands[len(e)-1] {
		parts = append(parts, e[begin:at+1])
		begin = at + 1
	}
	return parts
}

// literalBy returns the number of an expression that is a literal, and whether it is one.
func literalBy(e []api.Node) (api.Rat, bool) {
	if len(e) != 1 || e[0].Op != api.OpCash && e[0].Op != api.OpDays && e[0].Op != api.OpNumber {
		return api.Rat{}, false
	}
	return e[0].Num, true
}

// senseBy returns the sense of an expression as the chapter defines it, with the schedules of someSchedules.
func senseBy(e []api.Node, op int, name string) int {
	is := func(n api.Node) bool { return n.Op == op && n.Name == name }
	if !slices.ContainsFunc(e, is) {
		return 0
	}
	var senses []int
	parts := partsOf(e)
	for _, part := range parts {
		senses = append(senses, senseBy(part, op, name))
	}
	last := e[len(e)-1]
	switch last.Op {
	case op:
		return 1
	case api.OpAdd, api.OpMin, api.OpMax:
		return joinBy(senses[0], senses[1])
	case api.OpSub:
		return joinBy(senses[0], turnBy(senses[1]))
	case api.OpMul:
		for place := range parts {
			if n, isLiteral := literalBy(parts[place]); isLiteral && n.Neg {
				return turnBy(senses[1-place])
			} else if isLiteral {
				return senses[1-place]
			}
		}
	case api.OpDiv:
		if n, isLiteral := literalBy(parts[1]); isLiteral && n.Neg {
			return turnBy(senses[0])
		} else if isLiteral && n.Num != "" {
			return senses[0]
		}
	case api.OpIf:
		if senses[0] == 0 {
			return joinBy(senses[1], senses[2])
		}
	case api.OpDown, api.OpUp, api.OpNear:
		return senses[0]
	case api.OpRate:
		if slices.Contains(rightNames, last.Name) {
			return senses[0]
		}
	}
	return 3
}

// checkSense checks what Sense returns, and that it leaves its arguments as they are.
func checkSense(t *testing.T, e []api.Node, schedules []api.Schedule, op int, name string, want int) {
	t.Helper()
	keptNodes, keptSchedules := slices.Clone(e), copyOf(schedules)
	if got := mono.Sense(e, schedules, op, name); got != want {
		t.Errorf("Sense of %d nodes %.300s in %d %.30q: %d, not %d", len(e), written(e), op, name, got, want)
	}
	if !slices.Equal(e, keptNodes) || !reflect.DeepEqual(schedules, keptSchedules) {
		t.Errorf("Sense of %.300s changes its arguments", written(e))
	}
}

// checkRising checks what Rising returns, and that it leaves its arguments as they are.
func checkRising(t *testing.T, e []api.Node, schedules []api.Schedule, names []string, want bool) {
	t.Helper()
	keptNodes, keptSchedules, keptNames := slices.Clone(e), copyOf(schedules), slices.Clone(names)
	if got := mono.Rising(e, schedules, names); got != want {
		t.Errorf("Rising of %d nodes %.300s in %.300q: %t", len(e), written(e), names, got)
	}
	if !slices.Equal(e, keptNodes) || !reflect.DeepEqual(schedules, keptSchedules) || !slices.Equal(names, keptNames) {
		t.Errorf("Rising of %.300s changes its arguments", written(e))
	}
}

// copyOf returns schedules that share no memory with those that are given.
func copyOf(schedules []api.Schedule) []api.Schedule {
	kept := slices.Clone(schedules)
	for place := range kept {
		kept[place].Brackets = slices.Clone(kept[place].Brackets)
	}
	return kept
}

func TestExamples(t *testing.T) {
	up := []api.Schedule{schedule("x", "0", "1/10", "5", "1/5")}
	down := []api.Schedule{schedule("x", "0", "1/10", "5", "-1/5")}
	for _, row := range []struct {
		text      string
		schedules []api.Schedule
		op        int
		name      string
		want      int
	}{
		{"add(own.a, fact.a)", nil, api.OpOwn, "a", 1},
		{"add(own.a, fact.a)", nil, api.OpOwn, "b", 0},
		{"sub(own.a, own.a)", nil, api.OpOwn, "a", 3},
		{"sub($5, mul(-1/2, own.a))", nil, api.OpOwn, "a", 1},
		{"mul(own.a, fact.b)", nil, api.OpOwn, "a", 3},
		{"mul(own.a, fact.b)", nil, api.OpFact, "b", 3},
		{"div($1, own.a)", nil, api.OpOwn, "a", 3},
		{"div(own.a, -2)", nil, api.OpOwn, "a", 2},
		{"if(less(own.a, $3), own.b, $0)", nil, api.OpOwn, "a", 3},
		{"if(less(own.a, $3), own.b, $0)", nil, api.OpOwn, "b", 1},
		{"rate.x(own.a)", up, api.OpOwn, "a", 1},
		{"rate.x(own.a)", down, api.OpOwn, "a", 3},
		{"rate.x(own.a)", nil, api.OpOwn, "a", 3},
	} {
		checkSense(t, parsed(row.text), row.schedules, row.op, row.name, row.want)
	}
}
