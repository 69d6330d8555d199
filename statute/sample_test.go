package statute_test

import (
	"math/rand/v2"
	"slices"
	"strconv"

	"tithing/api"
	"tithing/ratio"
)

// pick returns an element of a list.
func pick[T any](r *rand.Rand, l ...T) T { return l[r.IntN(len(l))] }

// someName returns a name, seldom a long one.
func someName(r *rand.Rand) string {
	size := 1 + r.IntN(4)
	if r.IntN(10) == 0 {
		size = 1 + r.IntN(api.MaxName)
	}
	name := []byte{byte('a' + r.IntN(26))}
	for len(name) < size {
		name = append(name, "abz019_"[r.IntN(7)])
	}
	return string(name)
}

// someNames returns so many names, all of them different.
func someNames(r *rand.Rand, count int) []string {
	var names []string
	for len(names) < count {
		if name := someName(r); !slices.Contains(names, name) {
			names = append(names, name)
		}
	}
	return names
}

// someType returns a type, mostly one that literals have.
func someType(r *rand.Rand) api.Type {
	if r.IntN(4) == 0 {
		return pick(r, allTypes()...)
	}
	return pick(r, cash, cash, days, plain, truth)
}

// someAmount returns an amount, seldom a long one.
func someAmount(r *rand.Rand) api.Rat {
	a, _ := ratio.Quo(ratio.Of(r.IntN(2001)-1000), ratio.Of(1+r.IntN(12)))
	if r.IntN(20) == 0 {
		return ratio.Mul(a, num("98765432109876543210987654321"))
	}
	return a
}

// someBrackets returns right brackets.
func someBrackets(r *rand.Rand) []api.Bracket {
	l := []api.Bracket{{From: num("0"), Rate: someAmount(r)}}
	for count := r.IntN(api.MaxBrackets); count > 0; count-- {
		more, _ := ratio.Quo(ratio.Of(1+r.IntN(1000)), ratio.Of(1+r.IntN(5)))
		l = append(l, api.Bracket{From: ratio.Add(l[len(l)-1].From, more), Rate: someAmount(r)})
	}
	return l
}

// someLaw returns a right law.
func someLaw(r *rand.Rand) api.Law {
	facts, schedules, provisions := r.IntN(5), r.IntN(4), r.IntN(6)
	if r.IntN(10) == 0 {
		facts, schedules, provisions = r.IntN(api.MaxFacts+1), r.IntN(api.MaxSchedules+1), r.IntN(api.MaxProvisions+1)
	}
	names := someNames(r, facts+schedules+provisions)
	slices.Sort(names[:facts])
	slices.Sort(names[facts : facts+schedules])
	slices.Sort(names[facts+schedules:])
	var l api.Law
	for _, name := range names[:facts] {
		l.Facts = append(l.Facts, api.Decl{Name: name, Type: someType(r)})
	}
	for _, name := range names[facts : facts+schedules] {
		l.Schedules = append(l.Schedules, api.Schedule{Name: name, Unit: pick(r, cash, cash, someNumber(r)).Unit, Brackets: someBrackets(r)})
	}
	for _, name := range names[facts+schedules:] {
		l.Provisions = append(l.Provisions, api.Provision{Name: name, Type: someType(r)})
	}
	sigs := sigsBy(l)
	for place := range l.Provisions {
		fill(r, &l.Provisions[place], sigs)
	}
	return l
}

// someNumber returns a number type.
func someNumber(r *rand.Rand) api.Type { return pick(r, allTypes()[1:]...) }

// fill gives a provision, which has a name and a type, a body, and what else it may have.
func fill(r *rand.Rand, p *api.Provision, sigs []api.Sig) {
	size := 1 + r.IntN(8)
	if r.IntN(10) == 0 {
		size = 1 + r.IntN(api.MaxNodes)
	}
	p.Body = someOf(r, sigs, p.Type, size)
	p.Charge = p.Type == cash && r.IntN(2) == 0
	if !p.Type.Truth && r.IntN(3) == 0 {
		p.Step, _ = ratio.Quo(ratio.Of(1+r.IntN(100)), ratio.Of(1+r.IntN(20)))
		p.Cap = ratio.Mul(p.Step, ratio.Of(pick(r, 1, api.MaxUnits, 1+r.IntN(api.MaxUnits))))
	}
}

// someOf returns an expression of at most size nodes that has the type by the sigs, of which one has the type for OpOwn, or literals have it.
func someOf(r *rand.Rand, sigs []api.Sig, t api.Type, size int) []api.Node {
	for range 50 {
		op := api.OpAdd + r.IntN(api.OpRate-api.OpAdd+1)
		of := operandTypes(r, op, t)
		if of == nil || len(of) >= size {
			continue
		}
		n := api.Node{Op: op}
		if op == api.OpDown || op == api.OpUp || op == api.OpNear {
			n.Num = pick(r, num("1/100"), num("1"), num("7"))
		}
		if op == api.OpRate {
			n.Name = nameFor(r, sigs, op, t)
			if n.Name == "" {
				continue
			}
		}
		return append(someOperands(r, sigs, of, size-1), n)
	}
	return []api.Node{someLeaf(r, sigs, t)}
}

// someOperands returns operands of these types, one after the other, with at most size nodes.
func someOperands(r *rand.Rand, sigs []api.Sig, of []api.Type, size int) []api.Node {
	var e []api.Node
	for place, t := range of {
		after := len(of) - place - 1
		e = append(e, someOf(r, sigs, t, 1+r.IntN(size-len(e)-after))...)
	}
	return e
}

// operandTypes returns types of operands for which the operator has the type t, or nothing if there are none. Each of them is t, or one that literals have.
func operandTypes(r *rand.Rand, op int, t api.Type) []api.Type {
	literal := pick(r, cash, days, plain)
	switch {
	case op == api.OpIf:
		return []api.Type{truth, t, t}
	case op == api.OpLess && t.Truth:
		return []api.Type{literal, literal}
	case op == api.OpEqual && t.Truth:
		same := pick(r, literal, truth)
		return []api.Type{same, same}
	case (op == api.OpAnd || op == api.OpOr) && t.Truth:
		return []api.Type{truth, truth}
	case op == api.OpNot && t.Truth:
		return []api.Type{truth}
	case t.Truth || op >= api.OpLess && op <= api.OpNot:
		return nil
	case op >= api.OpDown:
		return []api.Type{t}
	case op == api.OpMul:
		return pick(r, []api.Type{t, plain}, []api.Type{plain, t})
	case op == api.OpDiv && t == plain:
		return []api.Type{literal, literal}
	case op == api.OpDiv:
		return []api.Type{t, plain}
	}
	return []api.Type{t, t}
}

// nameFor returns a name that has the type for the operator, or the empty string if there is none.
func nameFor(r *rand.Rand, sigs []api.Sig, op int, t api.Type) string {
	var names []string
	for _, s := range sigs {
		if s.Op == op && s.Type == t {
			names = append(names, s.Name)
		}
	}
	if len(names) == 0 {
		return ""
	}
	return pick(r, names...)
}

// someLeaf returns a node of the type that has no operands.
func someLeaf(r *rand.Rand, sigs []api.Sig, t api.Type) api.Node {
	op := api.OpFact + r.IntN(4)
	name := nameFor(r, sigs, op, t)
	if name != "" && r.IntN(3) > 0 {
		return api.Node{Op: op, Name: name}
	}
	switch t {
	case cash:
		return api.Node{Op: api.OpCash, Num: someAmount(r)}
	case days:
		return api.Node{Op: api.OpDays, Num: someAmount(r)}
	case plain:
		return api.Node{Op: api.OpNumber, Num: someAmount(r)}
	case truth:
		return api.Node{Op: api.OpTruth, Num: pick(r, num("0"), num("1"))}
	}
	return api.Node{Op: api.OpOwn, Name: nameFor(r, sigs, api.OpOwn, t)}
}

// fullLaw returns a right law with so many things of each kind, whose bodies use the first of them.
func fullLaw(facts, schedules, provisions int) api.Law {
	var l api.Law
	for place := range facts {
		l.Facts = append(l.Facts, api.Decl{Name: "f" + strconv.Itoa(100+place), Type: cash})
	}
	for place := range schedules {
		l.Schedules = append(l.Schedules, schedule("s"+strconv.Itoa(100+place), cash.Unit, "0", "1"))
	}
	for place := range provisions {
		l.Provisions = append(l.Provisions, api.Provision{Name: "p" + strconv.Itoa(100+place), Type: cash, Body: parsed("spouse.p100"), Charge: true})
	}
	return l
}
