package check_test

import (
	"math/rand/v2"
	"slices"
	"testing"

	"tithing/api"
	"tithing/check"
	"tithing/expr"
	"tithing/ratio"
)

var truth = api.Type{Truth: true}

// number returns the number type with these exponents.
func number(money, days int) api.Type {
	return api.Type{Unit: api.Unit{Money: money, Days: days}}
}

// allTypes returns all types: truths, and the numbers of all units.
func allTypes() []api.Type {
	l := []api.Type{truth}
	for money := -3; money <= 3; money++ {
		for days := -3; days <= 3; days++ {
			l = append(l, number(money, days))
		}
	}
	return l
}

// noTypes returns values that are no types, by a little or by much.
func noTypes() []api.Type {
	l := []api.Type{number(4, 0), number(-4, 0), number(0, 4), number(0, -4), number(4, 4), number(1<<31-1, 0), number(0, -1<<31), number(1<<40, 0), number(0, 1<<62), number(-1<<63, 0), number(0, -1<<63), number(1<<63-1, 1<<63-1)}
	for _, t := range allTypes() {
		if t.Unit != (api.Unit{}) {
			l = append(l, api.Type{Truth: true, Unit: t.Unit})
		}
	}
	return append(l, api.Type{Truth: true, Unit: api.Unit{Money: 4}}, api.Type{Truth: true, Unit: api.Unit{Days: -1 << 63}})
}

// num returns the amount of a text in lowest terms.
func num(s string) api.Rat {
	a, ok := ratio.Parse(s)
	if !ok {
		panic("no amount in lowest terms: " + s)
	}
	return a
}

// parsed returns the expression of a text.
func parsed(s string) []api.Node {
	e, errno := expr.Parse(s)
	if errno != api.OK {
		panic("no expression: " + s)
	}
	return e
}

// written returns the text of an expression.
func written(e []api.Node) string {
	s, errno := expr.Text(e)
	if errno != api.OK {
		return "no expression"
	}
	return s
}

// sigOps returns the operators that need a sig.
func sigOps() []int {
	return []int{api.OpFact, api.OpOwn, api.OpPrior, api.OpSpouse, api.OpRate}
}

// typesBy returns what Types should return, as the chapter defines it.
func typesBy(sigs []api.Sig, e []api.Node) ([]api.Type, api.Errno) {
	operands, ok := expr.Args(e)
	if !ok {
		return nil, expr.Check(e)
	}
	var l []api.Type
	for at, n := range e {
		var of []api.Type
		for _, operand := range operands[at] {
			of = append(of, l[operand])
		}
		var sig api.Type
		if slices.Contains(sigOps(), n.Op) {
			place := slices.IndexFunc(sigs, func(s api.Sig) bool { return s.Op == n.Op && s.Name == n.Name && countsBy(s) })
			if place < 0 {
				return nil, api.ErrName
			}
			sig = sigs[place].Type
		}
		t, ok := typeBy(n.Op, sig, of)
		if !ok {
			return nil, api.ErrType
		}
		l = append(l, t)
	}
	return l, api.OK
}

// countsBy reports whether a sig counts.
func countsBy(s api.Sig) bool {
	switch s.Op {
	case api.OpFact, api.OpOwn, api.OpPrior, api.OpSpouse:
		return slices.Contains(allTypes(), s.Type)
	case api.OpRate:
		return slices.Contains(allTypes()[1:], s.Type)
	}
	return false
}

// typeBy returns the type of a node for the type of its sig and those of its operands, and whether it has one.
func typeBy(op int, sig api.Type, of []api.Type) (api.Type, bool) {
	switch op {
	case api.OpCash:
		return number(1, 0), true
	case api.OpDays:
		return number(0, 1), true
	case api.OpNumber:
		return number(0, 0), true
	case api.OpTruth:
		return truth, true
	case api.OpFact, api.OpOwn, api.OpPrior, api.OpSpouse:
		return sig, true
	case api.OpAdd, api.OpSub, api.OpMin, api.OpMax:
		return of[0], !of[0].Truth && !of[1].Truth && of[0].Unit == of[1].Unit
	case api.OpMul:
		t := number(of[0].Unit.Money+of[1].Unit.Money, of[0].Unit.Days+of[1].Unit.Days)
		return t, !of[0].Truth && !of[1].Truth && slices.Contains(allTypes(), t)
	case api.OpDiv:
		t := number(of[0].Unit.Money-of[1].Unit.Money, of[0].Unit.Days-of[1].Unit.Days)
		return t, !of[0].Truth && !of[1].Truth && slices.Contains(allTypes(), t)
	case api.OpIf:
		return of[1], of[0].Truth && of[1] == of[2]
	case api.OpLess:
		return truth, !of[0].Truth && !of[1].Truth && of[0].Unit == of[1].Unit
	case api.OpEqual:
		return truth, of[0] == of[1]
	case api.OpAnd, api.OpOr:
		return truth, of[0].Truth && of[1].Truth
	case api.OpNot:
		return truth, of[0].Truth
	case api.OpDown, api.OpUp, api.OpNear:
		return of[0], !of[0].Truth
	case api.OpRate:
		return sig, !of[0].Truth && of[0].Unit == sig.Unit
	}
	panic("no operator")
}

// checkTypes checks what Types and Type return, and that they leave their arguments as they are.
func checkTypes(t *testing.T, sigs []api.Sig, e []api.Node, want []api.Type, errno api.Errno) {
	t.Helper()
	keptSigs, keptNodes := slices.Clone(sigs), slices.Clone(e)
	got, gotErrno := check.Types(sigs, e)
	if gotErrno != errno || !slices.Equal(got, want) {
		t.Errorf("Types of %d nodes %.300s: %v, %d, not %v, %d", len(e), written(e), got, gotErrno, want, errno)
	}
	var last api.Type
	if errno == api.OK {
		last = want[len(want)-1]
	}
	if got, gotErrno := check.Type(sigs, e); got != last || gotErrno != errno {
		t.Errorf("Type of %d nodes %.300s: %v, %d, not %v, %d", len(e), written(e), got, gotErrno, last, errno)
	}
	if !slices.Equal(sigs, keptSigs) || !slices.Equal(e, keptNodes) {
		t.Errorf("Types of %.300s changes its arguments", written(e))
	}
}

// checkType checks the type of an expression, and those of its other nodes with their definition.
func checkType(t *testing.T, sigs []api.Sig, e []api.Node, want api.Type, errno api.Errno) {
	t.Helper()
	if got, gotErrno := check.Type(sigs, e); got != want || gotErrno != errno {
		t.Errorf("Type of %.300s: %v, %d, not %v, %d", written(e), got, gotErrno, want, errno)
	}
	types, _ := typesBy(sigs, e)
	checkTypes(t, sigs, e, types, errno)
}

// everySig returns a sig that counts for each operator and each type, with the name of the type.
func everySig() []api.Sig {
	var l []api.Sig
	for _, op := range sigOps() {
		for _, t := range allTypes() {
			if op != api.OpRate || !t.Truth {
				l = append(l, api.Sig{Op: op, Name: nameOf(t), Type: t})
			}
		}
	}
	return l
}

// nameOf returns a name for a type: another one for each.
func nameOf(t api.Type) string {
	if t.Truth {
		return "t"
	}
	return "n" + string(rune('3'+t.Unit.Money)) + string(rune('3'+t.Unit.Days))
}

// someOf returns an expression of at most size nodes that has the type by everySig.
func someOf(r *rand.Rand, t api.Type, size int) []api.Node {
	for size > 1 {
		op := api.OpAdd + r.IntN(api.OpRate-api.OpAdd+1)
		of := operandTypes(r, op, t)
		if of == nil || len(of) >= size {
			continue
		}
		var e []api.Node
		left := size - 1
		for place, operand := range of {
			part := someOf(r, operand, 1+r.IntN(left-(len(of)-place-1)))
			left -= len(part)
			e = append(e, part...)
		}
		return append(e, someNode(op, t))
	}
	return []api.Node{someLeaf(r, t)}
}

// someNode returns a node with operands, whose type is t.
func someNode(op int, t api.Type) api.Node {
	switch op {
	case api.OpDown, api.OpUp, api.OpNear:
		return api.Node{Op: op, Num: num("1/100")}
	case api.OpRate:
		return api.Node{Op: op, Name: nameOf(t)}
	}
	return api.Node{Op: op}
}

// someLeaf returns a node of the type that has no operands.
func someLeaf(r *rand.Rand, t api.Type) api.Node {
	if r.IntN(2) == 0 {
		switch t {
		case number(1, 0):
			return api.Node{Op: api.OpCash, Num: num("5/2")}
		case number(0, 1):
			return api.Node{Op: api.OpDays, Num: num("-7")}
		case number(0, 0):
			return api.Node{Op: api.OpNumber, Num: num("0")}
		case truth:
			return api.Node{Op: api.OpTruth, Num: num("1")}
		}
	}
	return api.Node{Op: api.OpFact + r.IntN(4), Name: nameOf(t)}
}

// operandTypes returns types of operands for which the operator has the type t, or nothing if there are none.
func operandTypes(r *rand.Rand, op int, t api.Type) []api.Type {
	pick := func(l []api.Type) api.Type { return l[r.IntN(len(l))] }
	same, amount := pick(allTypes()), pick(allTypes()[1:])
	switch {
	case op == api.OpIf:
		return []api.Type{truth, t, t}
	case op == api.OpLess && t.Truth:
		return []api.Type{amount, amount}
	case op == api.OpEqual && t.Truth:
		return []api.Type{same, same}
	case (op == api.OpAnd || op == api.OpOr) && t.Truth:
		return []api.Type{truth, truth}
	case op == api.OpNot && t.Truth:
		return []api.Type{truth}
	case t.Truth || op >= api.OpLess && op <= api.OpNot:
		return nil
	case op >= api.OpDown:
		return []api.Type{t}
	case op == api.OpMul || op == api.OpDiv:
		other := number(t.Unit.Money-amount.Unit.Money, t.Unit.Days-amount.Unit.Days)
		if op == api.OpDiv {
			other = number(t.Unit.Money+amount.Unit.Money, t.Unit.Days+amount.Unit.Days)
		}
		if !slices.Contains(allTypes(), other) {
			return nil
		}
		return []api.Type{other, amount}
	}
	return []api.Type{t, t}
}

// sample is an expression that has the type by everySig.
type sample struct {
	nodes []api.Node
	is    api.Type
}

// someSamples returns so many expressions, of all sizes and types.
func someSamples(seed uint64, count int) []sample {
	r := rand.New(rand.NewPCG(8, seed))
	var l []sample
	for place := range count {
		t := allTypes()[r.IntN(50)]
		l = append(l, sample{someOf(r, t, 1+place%api.MaxNodes), t})
	}
	return l
}
