package expr

import (
	"strings"

	"tithing/api"
	"tithing/ratio"
)

// longest is how many bytes the text of a node has at most, up to its operands: two numbers, of whose digits each but the first has more than 3 bits, and some more. Longer ones are not read as numbers, which would take long.
const longest = 2*(api.MaxBits/3+1) + api.MaxName

func Text(e []api.Node) (string, api.Errno) {
	operands, errno := operandsOf(e)
	if errno != api.OK {
		return "", errno
	}
	texts := make([]string, len(e)) // of the expressions that end with each node
	for at, n := range e {
		texts[at] = head(n)
		for place, operand := range operands[at] {
			texts[at] += separator(place) + texts[operand]
		}
		if len(operands[at]) > 0 {
			texts[at] += ")"
		}
	}
	return texts[len(e)-1], api.OK
}

func Parse(s string) (e []api.Node, errno api.Errno) {
	defer func() {
		if recover() != nil {
			e, errno = nil, api.ErrForm
		}
	}()
	p := parser{rest: s}
	p.readExpression()
	if p.rest != "" {
		panic("more than an expression")
	}
	return p.nodes, api.OK
}

// head returns the text of a right node up to its operands.
func head(n api.Node) string {
	o := operators[n.Op]
	return o.before + inside(n) + o.after
}

// inside returns the text of what a right node has beside its operands.
func inside(n api.Node) string {
	switch operators[n.Op].has {
	case hasAmount, hasPositive:
		return ratio.Text(n.Num)
	case hasTruth:
		if n.Num == one {
			return "yes"
		}
		return "no"
	}
	return n.Name
}

// separator returns what stands before the operand at a place.
func separator(place int) string {
	if place == 0 {
		return "("
	}
	return ", "
}

// parser reads a text from its beginning on. It leaves one that is no expression by a panic.
type parser struct {
	rest  string // what has not been read
	begun int    // how many nodes have been read, at least up to their operands
	nodes []api.Node
}

// readExpression reads the text of an expression, and adds its nodes.
func (p *parser) readExpression() {
	p.begun++
	if p.begun > api.MaxNodes {
		panic("too many nodes") // before they are nested too deeply
	}
	n := nodeOf(p.readHead())
	operands := operators[n.Op].operands
	for place := range operands {
		p.skip(separator(place))
		p.readExpression()
	}
	if operands > 0 {
		p.skip(")")
	}
	p.nodes = append(p.nodes, n)
}

// readHead reads the text of a node up to its operands, or what stands in its place.
func (p *parser) readHead() string {
	end := strings.IndexAny(p.rest, "(,)")
	if end < 0 {
		end = len(p.rest)
	}
	read := p.rest[:end]
	p.rest = p.rest[end:]
	return read
}

// skip reads a text that has to be there.
func (p *parser) skip(text string) {
	rest, ok := strings.CutPrefix(p.rest, text)
	if !ok {
		panic("not " + text)
	}
	p.rest = rest
}

// nodeOf returns the right node whose text up to its operands is s.
func nodeOf(s string) api.Node {
	if len(s) > longest {
		panic("too long")
	}
	for op := api.OpCash; op <= api.OpRate; op++ {
		// What is read only tells which node it may be: whether s is its text, the text decides.
		n := nodeWith(op, s)
		if checkNode(n) == api.OK && head(n) == s {
			return n
		}
	}
	panic("no operator")
}

// nodeWith returns the one node with the operator whose text up to its operands may be s.
func nodeWith(op int, s string) api.Node {
	o := operators[op]
	n := api.Node{Op: op}
	inside := strings.TrimSuffix(strings.TrimPrefix(s, o.before), o.after)
	switch o.has {
	case hasAmount, hasPositive:
		n.Num, _ = ratio.Parse(inside)
	case hasTruth:
		n.Num = zero
		if inside == "yes" {
			n.Num = one
		}
	case hasName:
		n.Name = inside
	}
	return n
}
