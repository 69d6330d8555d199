package expr_test

import (
	"math/rand/v2"
	"slices"
	"strings"
	"testing"

	"tithing/api"
	"tithing/expr"
	"tithing/ratio"
)

// What a node has beside its operands, as the chapter's table says.
const (
	nothing = iota
	amount
	positive
	truth
	name
)

// row is a row of the chapter's table.
type row struct {
	op, has, operands int
	text              string
}

var rows = []row{
	{1, amount, 0, "$N"}, {2, amount, 0, "Nd"}, {3, amount, 0, "N"}, {4, truth, 0, "TRUTH"},
	{5, name, 0, "fact.NAME"}, {6, name, 0, "own.NAME"}, {7, name, 0, "prior.NAME"}, {8, name, 0, "spouse.NAME"},
	{9, nothing, 2, "add(A, B)"}, {10, nothing, 2, "sub(A, B)"}, {11, nothing, 2, "mul(A, B)"}, {12, nothing, 2, "div(A, B)"}, {13, nothing, 2, "min(A, B)"}, {14, nothing, 2, "max(A, B)"},
	{15, nothing, 3, "if(A, B, C)"}, {16, nothing, 2, "less(A, B)"}, {17, nothing, 2, "equal(A, B)"}, {18, nothing, 2, "and(A, B)"}, {19, nothing, 2, "or(A, B)"}, {20, nothing, 1, "not(A)"},
	{21, positive, 1, "down[N](A)"}, {22, positive, 1, "up[N](A)"}, {23, positive, 1, "near[N](A)"}, {24, name, 1, "rate.NAME(A)"},
}

// sample is an expression with its text and the operands of its nodes, as the chapter defines them.
type sample struct {
	nodes []api.Node
	text  string
	args  [][]int
}

// joined returns the sample that ends with a node of the row, whose operands are the parts.
func joined(w row, n api.Node, parts ...sample) sample {
	var s sample
	texts := make([]string, 3)
	var operands []int
	for place, part := range parts {
		for _, of := range part.args {
			var moved []int
			for _, at := range of {
				moved = append(moved, at+len(s.nodes))
			}
			s.args = append(s.args, moved)
		}
		s.nodes = append(s.nodes, part.nodes...)
		operands = append(operands, len(s.nodes)-1)
		texts[place] = part.text
	}
	s.nodes = append(s.nodes, n)
	s.args = append(s.args, operands)
	truthText := map[api.Rat]string{num("0"): "no", num("1"): "yes"}[n.Num]
	s.text = strings.NewReplacer("NAME", n.Name, "TRUTH", truthText, "N", ratio.Text(n.Num), "A", texts[0], "B", texts[1], "C", texts[2]).Replace(w.text)
	return s
}

// some returns an expression of at most size nodes.
func some(r *rand.Rand, size int) sample {
	w := rows[r.IntN(len(rows))]
	for w.operands >= size {
		w = rows[r.IntN(len(rows))]
	}
	left := size - 1
	var parts []sample
	for place := range w.operands {
		most := left - (w.operands - place - 1)
		part := some(r, 1+r.IntN(most))
		left -= len(part.nodes)
		parts = append(parts, part)
	}
	return joined(w, someNode(r, w), parts...)
}

// someNode returns a right node of the row.
func someNode(r *rand.Rand, w row) api.Node {
	pick := func(texts string) string {
		l := strings.Fields(texts)
		return l[r.IntN(len(l))]
	}
	n := api.Node{Op: w.op}
	switch w.has {
	case amount:
		n.Num = num(pick("0 1 -1 2 1/2 -7/3 100 1/100 18446744073709551616 -1/18446744073709551617"))
	case positive:
		n.Num = num(pick("1 2 1/2 7/3 100 1/100 18446744073709551616 1/18446744073709551617"))
	case truth:
		n.Num = num(pick("0 1"))
	case name:
		n.Name = pick("a b z a_ a0 z9_ wage d yes add own abcdefghijklmnopqrst")
	}
	return n
}

// someSamples returns so many expressions, of all sizes.
func someSamples(seed uint64, count int) []sample {
	r := rand.New(rand.NewPCG(7, seed))
	var l []sample
	for place := range count {
		l = append(l, some(r, 1+place%api.MaxNodes))
	}
	return l
}

// num returns the amount of a text in lowest terms.
func num(s string) api.Rat {
	a, ok := ratio.Parse(s)
	if !ok {
		panic("no amount in lowest terms: " + s)
	}
	return a
}

// parsed returns the expression of a text.
func parsed(s string) []api.Node {
	e, errno := expr.Parse(s)
	if errno != api.OK {
		panic("no expression: " + s)
	}
	return e
}

// written returns the text of an expression, or, for other lists, that they are none.
func written(e []api.Node) string {
	if s, errno := expr.Text(e); errno == api.OK {
		return s
	}
	return "no expression"
}

// power returns 2 to the power of so many bits, with so much added.
func power(bits, more int) api.Rat {
	a := ratio.Of(1)
	for range bits {
		a = ratio.Add(a, a)
	}
	return ratio.Add(a, ratio.Of(more))
}

// inverse returns 1 / a.
func inverse(a api.Rat) api.Rat {
	b, _ := ratio.Quo(ratio.Of(1), a)
	return b
}

// wrong returns api.Rats that are no amounts, for each of the reasons.
func wrong() []api.Rat {
	return []api.Rat{
		{}, {Neg: true}, {Num: "\x01"}, {Num: "\x05", Neg: true}, // the denominator is 0
		{Num: "\x00", Den: "\x01"}, {Num: "\x00\x01", Den: "\x01"}, {Num: "\x01", Den: "\x00\x01"}, // zeros in front
		{Num: "\x04", Den: "\x02"}, {Num: "\x05", Den: "\x05"}, {Num: "\x0a", Den: "\x04", Neg: true}, // a common divisor
		{Den: "\x02"}, {Den: "\x01", Neg: true}, // 0 with another denominator, or a sign
	}
}

// long returns amounts that do not fit, by a bit or by many.
func long() []api.Rat {
	below, _ := ratio.Quo(power(399, 1), power(400, 0))
	return []api.Rat{power(400, 0), ratio.Neg(power(400, 0)), inverse(power(400, 0)), ratio.Neg(inverse(power(400, 0))), below, power(900, 7), inverse(power(900, 7))}
}

// longest returns amounts that just fit.
func longest() []api.Rat {
	below, _ := ratio.Quo(power(400, -3), power(400, -1))
	return []api.Rat{power(400, -1), ratio.Neg(power(400, -1)), inverse(power(400, -1)), ratio.Neg(inverse(power(400, -1))), below, ratio.Neg(below)}
}

// names returns strings that are names, and noNames ones that are none.
func names() []string {
	return []string{"a", "z", "m", "a0", "z9", "a_", "wage", "a_b_0_9", "abcdefghijklmnopqrst", "z___________________", "yes", "add", "own", "d"}
}

func noNames() []string {
	return []string{
		"0", "9a", "_", "_a", "A", "Z", "Wage", "wAge", "wagE", "a-b", "a.b", "a b", " a", "a ", "a\n", "a\x00", "\x00", "a`", "a{", "`", "{", "a/", "a:", "a^", "a(", "ä", "aä", "aß", "a\xe4", "\xe1", "a\xff",
		"abcdefghijklmnopqrstu", strings.Repeat("a", 100000),
	}
}

// yes returns so many nodes without operands.
func yes(count int) []api.Node {
	return slices.Repeat([]api.Node{{Op: api.OpTruth, Num: num("1")}}, count)
}

// checkErrno checks what Check returns, and what the others do for a list with an error.
func checkErrno(t *testing.T, e []api.Node, errno api.Errno) {
	t.Helper()
	kept := slices.Clone(e)
	if got := expr.Check(e); got != errno {
		t.Errorf("Check of %d nodes %.300v: %d, not %d", len(e), e, got, errno)
	}
	args, ok := expr.Args(e)
	text, textErrno := expr.Text(e)
	if ok != (errno == api.OK) || textErrno != errno {
		t.Errorf("Args and Text of %d nodes %.300v: %t, %d", len(e), e, ok, textErrno)
	}
	if errno != api.OK {
		if args != nil || text != "" || len(expr.Refs(e)) != 0 {
			t.Errorf("%d nodes %.300v: %v, %q, %v", len(e), e, args, text, expr.Refs(e))
		}
		checkSubst(t, e, "a", yes(1), nil, errno)
		checkSubst(t, yes(1), "a", e, nil, errno)
		checkSwap(t, e, 0, num("1"), nil, errno)
		checkSwap(t, e, -1, api.Rat{}, nil, errno)
	}
	if !slices.Equal(e, kept) {
		t.Errorf("%.300v has become %.300v", kept, e)
	}
}

// checkSubst checks what Subst returns, that its arguments stay as they are, and that its result is new memory.
func checkSubst(t *testing.T, e []api.Node, of string, by, want []api.Node, errno api.Errno) {
	t.Helper()
	keptE, keptBy := slices.Clone(e), slices.Clone(by)
	got, gotErrno := expr.Subst(e, of, by)
	if !slices.Equal(got, want) || gotErrno != errno {
		t.Errorf("Subst of %q by %s in %s: %s, %d, not %s, %d", of, written(by), written(e), written(got), gotErrno, written(want), errno)
	}
	clear(got)
	if !slices.Equal(e, keptE) || !slices.Equal(by, keptBy) {
		t.Errorf("Subst of %q by %s in %s changes an argument, or shares its memory", of, written(keptBy), written(keptE))
	}
}

// checkSwap checks what Swap returns, that its argument stays as it is, and that its result is new memory.
func checkSwap(t *testing.T, e []api.Node, at int, a api.Rat, want []api.Node, errno api.Errno) {
	t.Helper()
	kept := slices.Clone(e)
	got, gotErrno := expr.Swap(e, at, a)
	if !slices.Equal(got, want) || gotErrno != errno {
		t.Errorf("Swap of node %d in %s to %.100v: %s, %d, not %s, %d", at, written(e), a, written(got), gotErrno, written(want), errno)
	}
	clear(got)
	if !slices.Equal(e, kept) {
		t.Errorf("Swap of node %d in %s changes its argument, or shares its memory", at, written(kept))
	}
}

// checkRefs checks what Refs returns, and that it is new memory.
func checkRefs(t *testing.T, e, want []api.Node) {
	t.Helper()
	kept := slices.Clone(e)
	got := expr.Refs(e)
	if !slices.Equal(got, want) {
		t.Errorf("Refs of %s: %v, not %v", written(e), got, want)
	}
	clear(got)
	if !slices.Equal(e, kept) {
		t.Errorf("Refs of %s changes its argument, or shares its memory", written(kept))
	}
}

// checkArgs checks what Args returns for an expression, and that no two slices of it share memory.
func checkArgs(t *testing.T, e []api.Node, want [][]int) {
	t.Helper()
	got, ok := expr.Args(e)
	if !ok || !slices.EqualFunc(got, want, slices.Equal) {
		t.Errorf("Args of %s: %v, %t, not %v", written(e), got, ok, want)
	}
	for at := range got {
		_ = append(got[at], -1)
	}
	if !slices.EqualFunc(got, want, slices.Equal) {
		t.Errorf("Args of %s: operands share memory beyond their ends", written(e))
	}
	for at := range got {
		for place := range got[at] {
			got[at][place] = -1
		}
		if !slices.EqualFunc(got[at+1:], want[at+1:], slices.Equal) {
			t.Errorf("Args of %s: the operands of node %d share memory", written(e), at)
		}
	}
}

// checkNoText checks that a text is not that of an expression.
func checkNoText(t *testing.T, s string) {
	t.Helper()
	if e, errno := expr.Parse(s); e != nil || errno != api.ErrForm {
		t.Errorf("Parse of %.300q: %v, %d", s, e, errno)
	}
}

// TestExamples checks the rows of the chapter's section 'Examples'.
func TestExamples(t *testing.T) {
	product := []api.Node{{Op: api.OpFact, Name: "wage"}, {Op: api.OpNumber, Num: num("1/2")}, {Op: api.OpMul}}
	if s, errno := expr.Text(product); s != "mul(fact.wage, 1/2)" || errno != api.OK {
		t.Errorf("Text: %q, %d", s, errno)
	}
	choice, errno := expr.Parse("if(less(fact.age, 18), $0, down[100](own.base))")
	want := []api.Node{{Op: api.OpFact, Name: "age"}, {Op: api.OpNumber, Num: num("18")}, {Op: api.OpLess}, {Op: api.OpCash, Num: num("0")}, {Op: api.OpOwn, Name: "base"}, {Op: api.OpDown, Num: num("100")}, {Op: api.OpIf}}
	if !slices.Equal(choice, want) || errno != api.OK {
		t.Errorf("Parse: %v, %d", choice, errno)
	}
	checkArgs(t, choice, [][]int{nil, nil, {0, 1}, nil, nil, {4}, {2, 3, 5}})
	for _, s := range []string{"add(1,2)", "01", "2/4", "own.", "near[0](1)"} {
		checkNoText(t, s)
	}
	checkErrno(t, nil, api.ErrForm)
	checkErrno(t, []api.Node{{Op: api.OpAdd}}, api.ErrForm)
	checkErrno(t, []api.Node{{Op: api.OpOwn}}, api.ErrName)
	sum := parsed("add(own.b, add(fact.b, own.b))")
	checkRefs(t, sum, []api.Node{{Op: api.OpFact, Name: "b"}, {Op: api.OpOwn, Name: "b"}})
	checkSubst(t, sum, "b", parsed("$1"), parsed("add($1, add(fact.b, $1))"), api.OK)
	down := parsed("down[5](7)")
	checkSwap(t, down, 1, num("0"), nil, api.ErrForm)
	checkSwap(t, down, 0, num("8"), parsed("down[5](8)"), api.OK)
}
