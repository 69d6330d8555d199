package mono

import (
	"tithing/api"
	"tithing/ratio"
)

// sense is how a value may move if that of a name grows: one bit for each direction. So what may move as either of two others has the bits of both.
type sense int

const (
	none    sense = 0
	rising  sense = 1
	falling sense = 2
	unknown       = rising | falling
)

func (s sense) joined(other sense) sense { return s | other }

// turned returns the sense of the negative value.
func (s sense) turned() sense {
	switch s {
	case rising:
		return falling
	case falling:
		return rising
	}
	return s
}

// scaled returns the sense of the product with a number, or of the quotient by it.
func (s sense) scaled(by api.Rat) sense {
	if ratio.Sign(by) < 0 {
		return s.turned()
	}
	return s
}

// part is an expression, by its last node, with its sense.
type part struct {
	last  api.Node
	sense sense
}

// isLiteral reports whether the part is one number: a node with such an operator has no operands, and so it is the only one.
func (p part) isLiteral() bool {
	switch p.last.Op {
	case api.OpCash, api.OpDays, api.OpNumber:
		return true
	}
	return false
}

// term is a node with its operands, in an expression with these rates.
type term struct {
	node     api.Node
	operands []part
	rates    map[string]bool
}

// rulesByOperator returns what finds the sense of a node of which an operand depends on the name. For operators without a rule, the sense is not known.
func rulesByOperator() map[int]func(term) sense {
	return map[int]func(term) sense{
		api.OpAdd:  term.join,
		api.OpMin:  term.join,
		api.OpMax:  term.join,
		api.OpSub:  term.difference,
		api.OpMul:  term.product,
		api.OpDiv:  term.quotient,
		api.OpIf:   term.choice,
		api.OpDown: term.join, // of one operand
		api.OpUp:   term.join,
		api.OpNear: term.join,
		api.OpRate: term.scheduled,
	}
}

// senseIn returns the sense of the node in a name, by these rules.
func (t term) senseIn(name api.Node, rules map[int]func(term) sense) sense {
	if t.node == name {
		return rising
	}
	if t.join() == none {
		return none
	}
	rule, isThere := rules[t.node.Op]
	if !isThere {
		return unknown
	}
	return rule(t)
}

func (t term) join() sense {
	all := none
	for _, operand := range t.operands {
		all = all.joined(operand.sense)
	}
	return all
}

func (t term) difference() sense {
	return t.operands[0].sense.joined(t.operands[1].sense.turned())
}

func (t term) product() sense {
	first, second := t.operands[0], t.operands[1]
	switch {
	case first.isLiteral():
		return second.sense.scaled(first.last.Num)
	case second.isLiteral():
		return first.sense.scaled(second.last.Num)
	}
	return unknown
}

func (t term) quotient() sense {
	above, below := t.operands[0], t.operands[1]
	if !below.isLiteral() || ratio.Sign(below.last.Num) == 0 {
		return unknown
	}
	return above.sense.scaled(below.last.Num)
}

func (t term) choice() sense {
	if t.operands[0].sense != none {
		return unknown
	}
	return t.operands[1].sense.joined(t.operands[2].sense)
}

func (t term) scheduled() sense {
	if !t.rates[t.node.Name] {
		return unknown
	}
	return t.operands[0].sense
}
