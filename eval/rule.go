package eval

import (
	"tithing/api"
	"tithing/money"
	"tithing/rate"
	"tithing/ratio"
)

// term is a node that is as it should be, with what its name stands for.
type term struct {
	node  api.Node
	names names
}

// outcome returns the outcome of the node for those of its operands, as many as it has.
func (t term) outcome(operands []api.Outcome) api.Outcome {
	if t.node.Op == api.OpIf { // the only one for which an error of an operand may not matter
		return chosen(operands)
	}
	var values []api.Rat
	for _, operand := range operands {
		if operand.Err != api.OK {
			return operand
		}
		values = append(values, operand.Value)
	}
	return counted(t.rule()(values))
}

// chosen returns the outcome of OpIf.
func chosen(operands []api.Outcome) api.Outcome {
	switch {
	case operands[0].Err != api.OK:
		return operands[0]
	case operands[0].Value == one:
		return operands[1]
	case operands[0].Value == zero:
		return operands[2]
	}
	return failed(api.ErrType)
}

// rule returns what the node does with the values of its operands. Its value may be one that does not fit.
func (t term) rule() func(values []api.Rat) api.Outcome {
	switch t.node.Op {
	case api.OpCash, api.OpDays, api.OpNumber, api.OpTruth:
		return t.number
	case api.OpFact, api.OpOwn, api.OpPrior, api.OpSpouse:
		return t.named
	case api.OpDiv:
		return t.divided
	case api.OpAnd, api.OpOr:
		return t.joined
	case api.OpNot:
		return t.negated
	case api.OpDown, api.OpUp, api.OpNear:
		return t.rounded
	case api.OpRate:
		return t.rated
	}
	return t.combined
}

func (t term) number([]api.Rat) api.Outcome { return api.Outcome{Value: t.node.Num} }

func (t term) named([]api.Rat) api.Outcome { return t.names.link(t.node) }

func (t term) combined(values []api.Rat) api.Outcome {
	return api.Outcome{Value: operation(t.node.Op)(values[0], values[1])}
}

func (t term) divided(values []api.Rat) api.Outcome {
	quotient, isThere := ratio.Quo(values[0], values[1])
	if !isThere {
		return failed(api.ErrZero)
	}
	return api.Outcome{Value: quotient}
}

func (t term) joined(values []api.Rat) api.Outcome {
	if !isTruth(values[0]) || !isTruth(values[1]) {
		return failed(api.ErrType)
	}
	return t.combined(values)
}

func (t term) negated(values []api.Rat) api.Outcome {
	if !isTruth(values[0]) {
		return failed(api.ErrType)
	}
	return api.Outcome{Value: truth(values[0] == zero)}
}

func (t term) rounded(values []api.Rat) api.Outcome {
	round := money.Near
	switch t.node.Op {
	case api.OpDown:
		round = money.Down
	case api.OpUp:
		round = money.Up
	}
	multiple, _ := round(values[0], t.node.Num) // there is one, as Num is greater than 0
	return api.Outcome{Value: multiple}
}

func (t term) rated(values []api.Rat) api.Outcome {
	schedule, isThere := t.names.schedule(t.node)
	if !isThere {
		return failed(api.ErrName)
	}
	value, errno := rate.At(schedule, values[0])
	return api.Outcome{Value: value, Err: errno}
}

// operation returns what an operator makes of two amounts, which are truths for OpAnd and OpOr.
func operation(op int) func(a, b api.Rat) api.Rat {
	switch op {
	case api.OpAdd:
		return ratio.Add
	case api.OpSub:
		return ratio.Sub
	case api.OpMul:
		return ratio.Mul
	case api.OpMin, api.OpAnd: // of two truths, both are true if the lesser one is
		return outer(-1)
	case api.OpMax, api.OpOr:
		return outer(+1)
	case api.OpLess:
		return func(a, b api.Rat) api.Rat { return truth(ratio.Cmp(a, b) < 0) }
	}
	return func(a, b api.Rat) api.Rat { return truth(a == b) } // OpEqual
}

// outer returns what takes the greater one of two amounts for the sign 1, and the lesser one for -1.
func outer(sign int) func(a, b api.Rat) api.Rat {
	return func(a, b api.Rat) api.Rat {
		if ratio.Cmp(b, a) == sign {
			return b
		}
		return a
	}
}

func isTruth(a api.Rat) bool { return a == zero || a == one }

func truth(holds bool) api.Rat {
	if holds {
		return one
	}
	return zero
}
