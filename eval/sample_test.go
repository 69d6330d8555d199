package eval_test

import (
	"math/rand/v2"
	"slices"

	"tithing/api"
)

var truth = api.Type{Truth: true}

// number returns the number type with these exponents.
func number(money, days int) api.Type {
	return api.Type{Unit: api.Unit{Money: money, Days: days}}
}

// allTypes are all types: truths, and the numbers of all units.
var allTypes = append([]api.Type{truth}, numberTypes()...)

// numberTypes returns the numbers of all units.
func numberTypes() []api.Type {
	var l []api.Type
	for money := -3; money <= 3; money++ {
		for days := -3; days <= 3; days++ {
			l = append(l, number(money, days))
		}
	}
	return l
}

// nameOf returns a name for a type: another one for each.
func nameOf(t api.Type) string {
	if t.Truth {
		return "t"
	}
	return "n" + string(rune('3'+t.Unit.Money)) + string(rune('3'+t.Unit.Days))
}

// typedSigs returns a sig for each operator and each type, with the name of the type.
func typedSigs() []api.Sig {
	var l []api.Sig
	for _, t := range allTypes {
		for op := api.OpFact; op <= api.OpSpouse; op++ {
			l = append(l, api.Sig{Op: op, Name: nameOf(t), Type: t})
		}
		if !t.Truth {
			l = append(l, api.Sig{Op: api.OpRate, Name: nameOf(t), Type: t})
		}
	}
	return l
}

// typedEnv returns a link with a value of its type, or a schedule that is right, for each of typedSigs.
func typedEnv(r *rand.Rand) api.Env {
	var env api.Env
	for _, s := range typedSigs() {
		if s.Op == api.OpRate {
			l := []api.Schedule{schedule(s.Name, "0", "1/3"), schedule(s.Name, "0", "0", "2", "1/10", "5", "-1/4"), schedule(s.Name, "0", "2", "1/7", "0")}
			env.Schedules = append(env.Schedules, l[r.IntN(len(l))])
			continue
		}
		env.Links = append(env.Links, api.Link{Op: s.Op, Name: s.Name, Value: api.Outcome{Value: someValue(r, s.Type)}})
	}
	return env
}

// someValue returns a value of a type.
func someValue(r *rand.Rand, t api.Type) api.Rat {
	if t.Truth {
		return []api.Rat{num("0"), num("1")}[r.IntN(2)]
	}
	l := amounts
	if r.IntN(4) > 0 { // mostly the small ones
		l = l[:9]
	}
	return l[r.IntN(len(l))]
}

// someOf returns an expression of at most size nodes that has the type by typedSigs.
func someOf(r *rand.Rand, t api.Type, size int) []api.Node {
	for size > 1 {
		op := api.OpAdd + r.IntN(api.OpRate-api.OpAdd+1)
		of := operandTypes(r, op, t)
		if of == nil || len(of) >= size {
			continue
		}
		var e []api.Node
		left := size - 1
		for place, operand := range of {
			part := someOf(r, operand, 1+r.IntN(left-(len(of)-place-1)))
			left -= len(part)
			e = append(e, part...)
		}
		return append(e, someNode(op, t))
	}
	return []api.Node{someLeaf(r, t)}
}

// someNode returns a node with operands, whose type is t.
func someNode(op int, t api.Type) api.Node {
	switch op {
	case api.OpDown, api.OpUp, api.OpNear:
		return api.Node{Op: op, Num: num("1/100")}
	case api.OpRate:
		return api.Node{Op: op, Name: nameOf(t)}
	}
	return api.Node{Op: op}
}

// someLeaf returns a node of the type that has no operands.
func someLeaf(r *rand.Rand, t api.Type) api.Node {
	if r.IntN(2) == 0 {
		v := someValue(r, t)
		switch t {
		case number(1, 0):
			return api.Node{Op: api.OpCash, Num: v}
		case number(0, 1):
			return api.Node{Op: api.OpDays, Num: v}
		case number(0, 0):
			return api.Node{Op: api.OpNumber, Num: v}
		case truth:
			return api.Node{Op: api.OpTruth, Num: v}
		}
	}
	return api.Node{Op: api.OpFact + r.IntN(4), Name: nameOf(t)}
}

// operandTypes returns types of operands for which the operator has the type t, or nothing if there are none.
func operandTypes(r *rand.Rand, op int, t api.Type) []api.Type {
	pick := func(l []api.Type) api.Type { return l[r.IntN(len(l))] }
	same, amount := pick(allTypes), pick(allTypes[1:])
	switch {
	case op == api.OpIf:
		return []api.Type{truth, t, t}
	case op == api.OpLess && t.Truth:
		return []api.Type{amount, amount}
	case op == api.OpEqual && t.Truth:
		return []api.Type{same, same}
	case (op == api.OpAnd || op == api.OpOr) && t.Truth:
		return []api.Type{truth, truth}
	case op == api.OpNot && t.Truth:
		return []api.Type{truth}
	case t.Truth || op >= api.OpLess && op <= api.OpNot:
		return nil
	case op >= api.OpDown:
		return []api.Type{t}
	case op == api.OpMul || op == api.OpDiv:
		other := number(t.Unit.Money-amount.Unit.Money, t.Unit.Days-amount.Unit.Days)
		if op == api.OpDiv {
			other = number(t.Unit.Money+amount.Unit.Money, t.Unit.Days+amount.Unit.Days)
		}
		if !slices.Contains(allTypes, other) {
			return nil
		}
		return []api.Type{other, amount}
	}
	return []api.Type{t, t}
}

// sample is an expression that has the type by typedSigs.
type sample struct {
	nodes []api.Node
	is    api.Type
}

// someSamples returns so many expressions, of all sizes and types.
func someSamples(seed uint64, count int) []sample {
	r := rand.New(rand.NewPCG(9, seed))
	var l []sample
	for place := range count {
		t := allTypes[r.IntN(50)]
		l = append(l, sample{someOf(r, t, 1+place%api.MaxNodes), t})
	}
	return l
}
