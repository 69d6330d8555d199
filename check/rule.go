package check

import (
	"slices"

	"tithing/api"
)

var (
	cashType   = api.Type{Unit: api.Unit{Money: 1}}
	daysType   = api.Type{Unit: api.Unit{Days: 1}}
	numberType = api.Type{}
	truthType  = api.Type{Truth: true}
)

// rule says which types are wanted by a node with an operator, and which type the node has then. The types that are given to it are those of the node's sig, if it needs one, and of its operands, in order.
type rule struct {
	wants func(given []api.Type) bool
	has   func(given []api.Type) api.Type
}

// rulesByOperator returns the rules, each with its operator as the index. As the sig comes first, what a schedule takes and has is what a sum does.
func rulesByOperator() []rule {
	return []rule{
		api.OpCash:   {anything, always(cashType)},
		api.OpDays:   {anything, always(daysType)},
		api.OpNumber: {anything, always(numberType)},
		api.OpTruth:  {anything, always(truthType)},
		api.OpFact:   {anything, first},
		api.OpOwn:    {anything, first},
		api.OpPrior:  {anything, first},
		api.OpSpouse: {anything, first},
		api.OpAdd:    {numbersOfOneUnit, first},
		api.OpSub:    {numbersOfOneUnit, first},
		api.OpMul:    {numbers, product},
		api.OpDiv:    {numbers, quotient},
		api.OpMin:    {numbersOfOneUnit, first},
		api.OpMax:    {numbersOfOneUnit, first},
		api.OpIf:     {choice, second},
		api.OpLess:   {numbersOfOneUnit, always(truthType)},
		api.OpEqual:  {alike, always(truthType)},
		api.OpAnd:    {truths, always(truthType)},
		api.OpOr:     {truths, always(truthType)},
		api.OpNot:    {truths, always(truthType)},
		api.OpDown:   {numbers, first},
		api.OpUp:     {numbers, first},
		api.OpNear:   {numbers, first},
		api.OpRate:   {numbersOfOneUnit, first},
	}
}

// typeFor returns the type of a node that is given these types. If they are not what it wants, it leaves the walk.
func (r rule) typeFor(given []api.Type) api.Type {
	if !r.wants(given) {
		panic(api.ErrType)
	}
	t := r.has(given)
	if !isType(t) { // a product or a quotient whose exponents are no unit
		panic(api.ErrType)
	}
	return t
}

func anything([]api.Type) bool { return true }

func numbers(given []api.Type) bool {
	return !slices.Contains(given, truthType)
}

func truths(given []api.Type) bool {
	return alike(given) && given[0] == truthType
}

func alike(given []api.Type) bool {
	for _, t := range given {
		if t != given[0] {
			return false
		}
	}
	return true
}

func numbersOfOneUnit(given []api.Type) bool {
	return numbers(given) && alike(given)
}

// choice reports whether OpIf is given a truth and two of one type.
func choice(given []api.Type) bool {
	return given[0] == truthType && alike(given[1:])
}

// always returns a function for nodes that have this type, whatever they are given.
func always(t api.Type) func([]api.Type) api.Type {
	return func([]api.Type) api.Type { return t }
}

func first(given []api.Type) api.Type { return given[0] }

func second(given []api.Type) api.Type { return given[1] }

func product(given []api.Type) api.Type {
	a, b := given[0].Unit, given[1].Unit
	return api.Type{Unit: api.Unit{Money: a.Money + b.Money, Days: a.Days + b.Days}}
}

func quotient(given []api.Type) api.Type {
	a, b := given[0].Unit, given[1].Unit
	return api.Type{Unit: api.Unit{Money: a.Money - b.Money, Days: a.Days - b.Days}}
}
