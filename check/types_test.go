package check_test

import (
	"math/rand/v2"
	"slices"
	"strings"
	"testing"

	"tithing/api"
	"tithing/check"
	"tithing/expr"
)

// exampleSigs are those of the chapter's section 'Examples'.
func exampleSigs() []api.Sig {
	return []api.Sig{{Op: api.OpFact, Name: "income", Type: number(1, 0)}, {Op: api.OpFact, Name: "stay", Type: number(0, 1)}, {Op: api.OpOwn, Name: "poor", Type: truth}, {Op: api.OpRate, Name: "scale", Type: number(1, 0)}}
}

func TestExamples(t *testing.T) {
	for _, x := range []struct {
		text  string
		want  api.Type
		errno api.Errno
	}{
		{"mul(fact.income, 1/10)", number(1, 0), api.OK},
		{"div(fact.income, fact.stay)", number(1, -1), api.OK},
		{"if(own.poor, $0, rate.scale(fact.income))", number(1, 0), api.OK},
		{"add(fact.income, 5)", api.Type{}, api.ErrType},
		{"and(own.poor, 1)", api.Type{}, api.ErrType},
		{"rate.scale(fact.stay)", api.Type{}, api.ErrType},
		{"fact.poor", api.Type{}, api.ErrName},
		{"add(fact.none, fact.stay)", api.Type{}, api.ErrName},
		{"equal(own.poor, yes)", truth, api.OK},
		{"less(1d, 2d)", truth, api.OK},
	} {
		checkType(t, exampleSigs(), parsed(x.text), x.want, x.errno)
	}
	if check.Value(truth, num("2")) || !check.Value(number(1, 0), num("-1/3")) {
		t.Error("Value of a truth and 2, or of money and -1/3")
	}
}

func TestP8_2Numbers(t *testing.T) {
	for _, x := range []struct {
		text string
		want api.Type
	}{
		{"$0", number(1, 0)}, {"$-7/3", number(1, 0)}, {"0d", number(0, 1)}, {"1/2d", number(0, 1)}, {"0", number(0, 0)}, {"1", number(0, 0)}, {"-5/4", number(0, 0)}, {"no", truth}, {"yes", truth},
	} {
		checkType(t, nil, parsed(x.text), x.want, api.OK)
		checkType(t, everySig(), parsed(x.text), x.want, api.OK)
	}
}

// TestP8_2Operands checks all operators for all types of their operands.
func TestP8_2Operands(t *testing.T) {
	sigs := everySig()
	for op := api.OpAdd; op < api.OpRate; op++ {
		n := someNode(op, api.Type{})
		for _, of := range listsOfTypes(operandCount(op)) {
			e, want := leavesOf(of), slices.Clone(of)
			is, ok := typeBy(op, api.Type{}, of)
			if ok {
				checkTypes(t, sigs, append(e, n), append(want, is), api.OK)
			} else {
				checkTypes(t, sigs, append(e, n), nil, api.ErrType)
			}
		}
	}
}

// operandCount returns how many operands an operator from OpAdd on has.
func operandCount(op int) int {
	switch op {
	case api.OpIf:
		return 3
	case api.OpNot, api.OpDown, api.OpUp, api.OpNear, api.OpRate:
		return 1
	}
	return 2
}

// listsOfTypes returns all lists of so many types: of three, those whose third one is the first or second one, money or a truth.
func listsOfTypes(count int) [][]api.Type {
	if count == 0 {
		return [][]api.Type{nil}
	}
	var l [][]api.Type
	for _, before := range listsOfTypes(count - 1) {
		last := allTypes()
		if count == 3 {
			last = []api.Type{before[0], before[1], number(1, 0), truth}
		}
		for _, of := range last {
			l = append(l, append(slices.Clone(before), of))
		}
	}
	return l
}

// leavesOf returns nodes of these types by everySig.
func leavesOf(types []api.Type) []api.Node {
	var e []api.Node
	for place, of := range types {
		e = append(e, api.Node{Op: api.OpFact + place, Name: nameOf(of)})
	}
	return e
}

func TestP8_2Schedules(t *testing.T) {
	sigs := everySig()
	for _, takes := range allTypes() {
		for _, of := range allTypes() {
			e := append(leavesOf([]api.Type{of}), api.Node{Op: api.OpRate, Name: nameOf(takes)})
			switch {
			case takes.Truth:
				checkTypes(t, sigs, e, nil, api.ErrName)
			case takes != of:
				checkTypes(t, sigs, e, nil, api.ErrType)
			default:
				checkTypes(t, sigs, e, []api.Type{of, of}, api.OK)
			}
		}
	}
}

// TestP8_2Sigs checks which sigs count, and which one is that of a node.
func TestP8_2Sigs(t *testing.T) {
	for _, op := range sigOps() {
		e := []api.Node{{Op: op, Name: "a"}}
		if op == api.OpRate {
			e = []api.Node{{Op: api.OpCash, Num: num("1")}, {Op: op, Name: "a"}}
		}
		right := api.Sig{Op: op, Name: "a", Type: number(1, 0)}
		var others []api.Sig // none of which is one for the node
		for _, is := range noTypes() {
			others = append(others, api.Sig{Op: op, Name: "a", Type: is})
		}
		for other := -2; other <= 30; other++ {
			if other != op {
				others = append(others, api.Sig{Op: other, Name: "a", Type: number(1, 0)}, api.Sig{Op: other, Name: "a", Type: truth})
			}
		}
		for _, name := range []string{"", "b", "aa", "A", "a ", "\x00a", strings.Repeat("a", 1000)} {
			others = append(others, api.Sig{Op: op, Name: name, Type: number(1, 0)})
		}
		if op == api.OpRate {
			others = append(others, api.Sig{Op: op, Name: "a", Type: truth})
		}
		want, _ := typesBy([]api.Sig{right}, e)
		checkTypes(t, nil, e, nil, api.ErrName)
		checkTypes(t, []api.Sig{right}, e, want, api.OK)
		checkTypes(t, others, e, nil, api.ErrName)
		checkTypes(t, append(slices.Clone(others), right), e, want, api.OK)
		checkTypes(t, append([]api.Sig{right}, others...), e, want, api.OK)
		for _, other := range others {
			checkTypes(t, []api.Sig{other}, e, nil, api.ErrName)
			checkTypes(t, []api.Sig{other, right}, e, want, api.OK)
		}
	}
}

// TestP8_2FirstSig checks that of two sigs that count the first one is that of the node.
func TestP8_2FirstSig(t *testing.T) {
	for _, op := range sigOps()[:4] {
		for _, a := range allTypes() {
			for _, b := range allTypes() {
				sigs := []api.Sig{{Op: op, Name: "a", Type: a}, {Op: op, Name: "a", Type: b}}
				checkTypes(t, sigs, []api.Node{{Op: op, Name: "a"}}, []api.Type{a}, api.OK)
			}
		}
	}
	sigs := []api.Sig{{Op: api.OpRate, Name: "a", Type: truth}, {Op: api.OpRate, Name: "a", Type: number(1, 0)}, {Op: api.OpRate, Name: "a", Type: number(0, 1)}}
	checkType(t, sigs, parsed("rate.a($1)"), number(1, 0), api.OK)
	checkType(t, sigs, parsed("rate.a(1d)"), api.Type{}, api.ErrType)
}

// TestP8_2First checks that the error is that of the first node that has one, and that a missing sig comes before a wrong operand.
func TestP8_2First(t *testing.T) {
	for _, x := range []struct {
		text  string
		errno api.Errno
	}{
		{"add(add(1, 1d), fact.none)", api.ErrType},
		{"add(fact.none, add(1, 1d))", api.ErrName},
		{"add(add(1, yes), add(fact.none, 2))", api.ErrType},
		{"rate.none(yes)", api.ErrName},
		{"rate.none(add(1, yes))", api.ErrType},
		{"rate.scale(fact.none)", api.ErrName},
		{"rate.scale(yes)", api.ErrType},
		{"if(1, fact.none, 2)", api.ErrName},
		{"if(no, and(1, 2), fact.none)", api.ErrType},
		{"if(no, 1, fact.none)", api.ErrName}, // also in an operand that is never taken
		{"if(yes, 1, add(1, $1))", api.ErrType},
		{"mul(yes, fact.none)", api.ErrName},
		{"equal(not(1), own.none)", api.ErrType},
		{"fact.poor", api.ErrName}, {"own.income", api.ErrName}, {"prior.income", api.ErrName}, {"spouse.income", api.ErrName}, {"rate.income($1)", api.ErrName}, {"fact.scale", api.ErrName},
	} {
		checkTypes(t, exampleSigs(), parsed(x.text), nil, x.errno)
	}
}

// TestP8_2Units checks units that are left, and come back to, on the way.
func TestP8_2Units(t *testing.T) {
	for _, x := range []struct {
		text  string
		want  api.Type
		errno api.Errno
	}{
		{"mul(mul($1, $1), $1)", number(3, 0), api.OK},
		{"mul(mul(mul($1, $1), $1), $1)", api.Type{}, api.ErrType},
		{"div(mul(mul(mul($1, $1), $1), $1), $1)", api.Type{}, api.ErrType},
		{"mul(div(mul(mul($1, $1), $1), $1), $1)", number(3, 0), api.OK},
		{"div(div(div(1, 1d), 1d), 1d)", number(0, -3), api.OK},
		{"div(div(div(div(1, 1d), 1d), 1d), 1d)", api.Type{}, api.ErrType},
		{"div(mul(mul($1, $1), $1), mul(mul(1d, 1d), 1d))", number(3, -3), api.OK},
		{"div(div(div($1, 1d), 1d), mul($1, 1d))", number(0, -3), api.OK},
		{"div(div(1, $1), div(1, $1))", number(0, 0), api.OK},
		{"div(mul($1, $1), div(div(1, $1), $1))", api.Type{}, api.ErrType},
		{"less(div($1, 1d), div(2, div(1d, $1)))", truth, api.OK},
	} {
		checkType(t, nil, parsed(x.text), x.want, x.errno)
	}
}

// TestP8_2Check checks that the error of a list that is no expression comes before all others.
func TestP8_2Check(t *testing.T) {
	one, cash, none := api.Node{Op: api.OpNumber, Num: num("1")}, api.Node{Op: api.OpCash, Num: num("1")}, api.Node{Op: api.OpFact, Name: "none"}
	add := api.Node{Op: api.OpAdd}
	for _, x := range []struct {
		nodes []api.Node
		errno api.Errno
	}{
		{nil, api.ErrForm}, {[]api.Node{}, api.ErrForm}, {[]api.Node{add}, api.ErrForm}, {[]api.Node{one, one}, api.ErrForm}, {[]api.Node{one, add}, api.ErrForm}, {[]api.Node{{}}, api.ErrForm}, {[]api.Node{{Op: 25}}, api.ErrForm}, {[]api.Node{{Op: -1 << 63}}, api.ErrForm},
		{[]api.Node{one, cash, add, one}, api.ErrForm},                                     // a wrong type before
		{[]api.Node{none, one}, api.ErrForm},                                               // a missing sig before
		{[]api.Node{one, cash, add, {Op: api.OpFact, Name: "None"}, add}, api.ErrName},     // that of expr.Check, not ErrType
		{[]api.Node{none, {Op: api.OpDown}}, api.ErrForm},                                  // no step
		{[]api.Node{one, {Op: api.OpNot, Name: "not"}}, api.ErrForm},                       // a name where there is none
		{[]api.Node{{Op: api.OpOwn}}, api.ErrName},                                         // no name
		{[]api.Node{{Op: api.OpFact, Name: "income", Num: num("1")}}, api.ErrForm},         // a number where there is none
		{[]api.Node{{Op: api.OpTruth, Num: num("2")}}, api.ErrForm},                        // no truth
		{slices.Repeat([]api.Node{none}, 61), api.ErrMany},                                 // too many nodes
		{slices.Repeat([]api.Node{{}}, 61), api.ErrMany},                                   // of no kind
		{append(slices.Repeat([]api.Node{one, cash, add}, 20), add, add), api.ErrMany},     // 62 nodes
		{append([]api.Node{one, cash}, slices.Repeat([]api.Node{add}, 2)...), api.ErrForm}, // too few operands after a wrong type
	} {
		for _, sigs := range [][]api.Sig{nil, {}, exampleSigs(), everySig(), {{Op: api.OpOwn, Type: truth}, {Op: api.OpFact, Name: "None", Type: truth}}} {
			checkTypes(t, sigs, x.nodes, nil, x.errno)
		}
	}
}

// TestP8_2Samples checks expressions of all sizes that have a type.
func TestP8_2Samples(t *testing.T) {
	sigs := everySig()
	for _, s := range someSamples(1, 3000) {
		checkType(t, sigs, s.nodes, s.is, api.OK)
	}
}

// TestP8_2Changed checks expressions in which nodes have been exchanged, so that many have an error, or several.
func TestP8_2Changed(t *testing.T) {
	r := rand.New(rand.NewPCG(8, 2))
	sigs := everySig()
	found := map[api.Errno]int{}
	for _, s := range someSamples(3, 6000) {
		e := slices.Clone(s.nodes)
		for range 1 + r.IntN(3) {
			changeNode(r, e)
		}
		want, errno := typesBy(sigs, e)
		found[errno]++
		checkTypes(t, sigs, e, want, errno)
	}
	if found[api.OK] < 100 || found[api.ErrName] < 100 || found[api.ErrType] < 100 || len(found) != 3 {
		t.Errorf("so many expressions of each kind: %v", found)
	}
}

// changeNode changes a node of an expression to one with as many operands.
func changeNode(r *rand.Rand, e []api.Node) {
	at := r.IntN(len(e))
	switch {
	case e[at].Name != "" && r.IntN(2) == 0:
		e[at].Name = [...]string{"n33", "t", "n43", "x"}[r.IntN(4)]
	case e[at].Op < api.OpAdd:
		e[at] = [...]api.Node{{Op: api.OpCash, Num: num("1")}, {Op: api.OpDays, Num: num("1")}, {Op: api.OpTruth, Num: num("0")}, {Op: api.OpSpouse, Name: "t"}}[r.IntN(4)]
	case operandCount(e[at].Op) == 1:
		e[at] = [...]api.Node{{Op: api.OpNot}, {Op: api.OpUp, Num: num("2")}, {Op: api.OpRate, Name: "n33"}}[r.IntN(3)]
	case operandCount(e[at].Op) == 2:
		e[at] = api.Node{Op: [...]int{api.OpSub, api.OpMul, api.OpDiv, api.OpMax, api.OpLess, api.OpEqual, api.OpAnd, api.OpOr}[r.IntN(8)]}
	}
}

// TestP8_2Memory checks that results are new memory.
func TestP8_2Memory(t *testing.T) {
	e := parsed("add(1, mul(2, 3))")
	a, _ := check.Types(nil, e)
	b, _ := check.Types(nil, e)
	for place := range a {
		a[place] = truth
	}
	if !slices.Equal(b, slices.Repeat([]api.Type{number(0, 0)}, 5)) {
		t.Errorf("the second result is %v", b)
	}
}

// TestP8_2ManySigs checks that a list of sigs may have any length.
func TestP8_2ManySigs(t *testing.T) {
	others := slices.Repeat([]api.Sig{{Op: api.OpFact, Name: "b", Type: truth}, {Op: api.OpFact, Name: "a", Type: number(4, 0)}}, 50000)
	sigs := append(others, api.Sig{Op: api.OpFact, Name: "a", Type: number(0, 1)})
	checkType(t, sigs, parsed("add(fact.a, 1d)"), number(0, 1), api.OK)
	checkType(t, others, parsed("add(fact.a, 1d)"), api.Type{}, api.ErrName)
}

func TestP8_3Type(t *testing.T) {
	sigs := everySig()
	for _, s := range someSamples(4, 1000) {
		types, errno := check.Types(sigs, s.nodes)
		is, errnoOfType := check.Type(sigs, s.nodes)
		if errno != api.OK || errnoOfType != api.OK || is != s.is || is != types[len(types)-1] {
			t.Errorf("%s: %v, %d and %v, %d", written(s.nodes), types, errno, is, errnoOfType)
		}
		// Without sigs all names are unknown, and there is the zero type.
		is, errnoOfType = check.Type(nil, s.nodes)
		if names := expr.Refs(s.nodes); len(names) > 0 && (is != api.Type{} || errnoOfType != api.ErrName) {
			t.Errorf("%s without sigs: %v, %d", written(s.nodes), is, errnoOfType)
		}
	}
}
