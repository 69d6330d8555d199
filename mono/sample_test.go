package mono_test

import (
	"math/rand/v2"

	"tithing/api"
)

// amounts are amounts that fit, small ones first.
var amounts = []api.Rat{num("0"), num("1"), num("-1"), num("2"), num("5"), num("-3"), num("1/2"), num("-7/3"), num("13/5"), num("1000"), num("-999/7")}

// pick returns an element of a list.
func pick[T any](r *rand.Rand, l ...T) T { return l[r.IntN(len(l))] }

// someLeaf returns a name, mostly own.a, or a literal.
func someLeaf(r *rand.Rand) api.Node {
	switch r.IntN(6) {
	case 0:
		return api.Node{Op: pick(r, api.OpFact, api.OpOwn, api.OpPrior, api.OpSpouse), Name: pick(r, "a", "b")}
	case 1, 2, 3:
		return api.Node{Op: pick(r, api.OpCash, api.OpDays, api.OpNumber), Num: pick(r, amounts...)}
	}
	return api.Node{Op: api.OpOwn, Name: "a"}
}

// someOf returns an expression of at most size nodes that has a number as its value, unless it divides by 0 or does without a schedule.
func someOf(r *rand.Rand, size int) []api.Node {
	left := size - 1
	switch {
	case size < 2:
		return []api.Node{someLeaf(r)}
	case size > 3 && r.IntN(8) == 0:
		e := someTruth(r, r.IntN(left-1))
		second := someOf(r, 1+r.IntN(max(1, left-len(e)-1)))
		third := someOf(r, left-len(e)-len(second))
		return append(append(append(e, second...), third...), api.Node{Op: api.OpIf})
	case size < 3 || r.IntN(5) == 0:
		return append(someOf(r, left), pick(r, api.Node{Op: api.OpDown, Num: num("2")}, api.Node{Op: api.OpUp, Num: num("1/3")}, api.Node{Op: api.OpNear, Num: num("1")},
			api.Node{Op: api.OpRate, Name: "up"}, api.Node{Op: api.OpRate, Name: "flat"}, api.Node{Op: api.OpRate, Name: "down"}, api.Node{Op: api.OpRate, Name: "unit"}))
	}
	op := pick(r, api.OpAdd, api.OpAdd, api.OpSub, api.OpMul, api.OpDiv, api.OpMin, api.OpMax)
	first := someOf(r, 1+r.IntN(left-1))
	second := someOf(r, left-len(first))
	if (op == api.OpMul || op == api.OpDiv) && r.IntN(8) > 0 { // mostly by a literal
		second = []api.Node{{Op: api.OpNumber, Num: pick(r, amounts...)}}
		if op == api.OpMul && r.IntN(2) == 0 {
			first, second = second, first
		}
	}
	return append(append(first, second...), api.Node{Op: op})
}

// someTruth returns an expression of at most max(1, size) nodes that has a truth as its value.
func someTruth(r *rand.Rand, size int) []api.Node {
	if size < 3 {
		return []api.Node{{Op: api.OpTruth, Num: pick(r, num("0"), num("1"))}}
	}
	if r.IntN(4) == 0 {
		return append(someTruth(r, size-1), api.Node{Op: api.OpNot})
	}
	first := 1 + r.IntN(size-2)
	if r.IntN(3) == 0 {
		e := someTruth(r, first)
		return append(append(e, someTruth(r, size-1-len(e))...), api.Node{Op: pick(r, api.OpAnd, api.OpOr)})
	}
	e := someOf(r, first)
	return append(append(e, someOf(r, size-1-len(e))...), api.Node{Op: pick(r, api.OpLess, api.OpEqual)})
}

// someSteady returns an expression of at most size nodes, which are names, literals, add, min, max, down, up and near.
func someSteady(r *rand.Rand, size int) []api.Node {
	switch {
	case size < 2:
		return []api.Node{someLeaf(r)}
	case size < 3 || r.IntN(4) == 0:
		return append(someSteady(r, size-1), api.Node{Op: pick(r, api.OpDown, api.OpUp, api.OpNear), Num: pick(r, num("2"), num("1/3"))})
	}
	e := someSteady(r, 1+r.IntN(size-2))
	e = append(e, someSteady(r, size-1-len(e))...)
	return append(e, api.Node{Op: pick(r, api.OpAdd, api.OpMin, api.OpMax)})
}
