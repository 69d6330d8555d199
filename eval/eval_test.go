package eval_test

import (
	"math/big"
	"reflect"
	"regexp"
	"slices"
	"testing"

	"tithing/api"
	"tithing/eval"
	"tithing/expr"
	"tithing/rate"
	"tithing/ratio"
)

// num returns the amount of a text in lowest terms.
func num(s string) api.Rat {
	a, ok := ratio.Parse(s)
	if !ok {
		panic("no amount in lowest terms: " + s)
	}
	return a
}

// parsed returns the expression of a text.
func parsed(s string) []api.Node {
	e, errno := expr.Parse(s)
	if errno != api.OK {
		panic("no expression: " + s)
	}
	return e
}

// written returns the text of an expression.
func written(e []api.Node) string {
	s, errno := expr.Text(e)
	if errno != api.OK {
		return "no expression"
	}
	return s
}

// value and fail return outcomes.
func value(s string) api.Outcome { return api.Outcome{Value: num(s)} }

func fail(errno api.Errno) api.Outcome { return api.Outcome{Err: errno} }

// bigOf returns an api.Rat as a number, and whether it is in lowest terms.
func bigOf(a api.Rat) (*big.Rat, bool) {
	above, below := new(big.Int).SetBytes([]byte(a.Num)), new(big.Int).SetBytes([]byte(a.Den))
	if below.Sign() == 0 {
		return nil, false
	}
	if a.Neg {
		above.Neg(above)
	}
	x := new(big.Rat).SetFrac(above, below)
	return x, ratOf(x) == a
}

// ratOf returns a number as an api.Rat.
func ratOf(x *big.Rat) api.Rat {
	return api.Rat{Neg: x.Sign() < 0, Num: api.Nat(x.Num().Bytes()), Den: api.Nat(x.Denom().Bytes())}
}

// fitsBy reports whether a is an amount that fits.
func fitsBy(a api.Rat) bool {
	x, ok := bigOf(a)
	return ok && x.Num().BitLen() <= api.MaxBits && x.Denom().BitLen() <= api.MaxBits
}

// countBy returns what an outcome counts as.
func countBy(o api.Outcome) api.Outcome {
	if o.Err != api.OK {
		return fail(o.Err)
	}
	if !fitsBy(o.Value) {
		return fail(api.ErrRange)
	}
	return o
}

// operandsBy returns how many operands an operator has.
func operandsBy(op int) int {
	switch op {
	case api.OpCash, api.OpDays, api.OpNumber, api.OpTruth, api.OpFact, api.OpOwn, api.OpPrior, api.OpSpouse:
		return 0
	case api.OpNot, api.OpDown, api.OpUp, api.OpNear, api.OpRate:
		return 1
	case api.OpIf:
		return 3
	}
	return 2
}

var rightName = regexp.MustCompile(`^[a-z][a-z0-9_]{0,19}$`)

// formBy reports whether a node and its name are as the table of chapter 7 says.
func formBy(n api.Node) bool {
	switch n.Op {
	case api.OpFact, api.OpOwn, api.OpPrior, api.OpSpouse, api.OpRate:
		return n.Num == api.Rat{} && rightName.MatchString(n.Name)
	case api.OpCash, api.OpDays, api.OpNumber:
		return n.Name == "" && fitsBy(n.Num)
	case api.OpTruth:
		return n.Name == "" && (n.Num == num("0") || n.Num == num("1"))
	case api.OpDown, api.OpUp, api.OpNear:
		return n.Name == "" && fitsBy(n.Num) && !n.Num.Neg && n.Num != num("0")
	}
	return n.Op >= api.OpAdd && n.Op <= api.OpNot && n.Name == "" && n.Num == api.Rat{}
}

// outcomeBy returns the outcome of a node for those of its operands, as the chapter defines it.
func outcomeBy(n api.Node, of []api.Outcome, env api.Env) api.Outcome {
	switch n.Op {
	case api.OpFact, api.OpOwn, api.OpPrior, api.OpSpouse:
		for _, l := range env.Links {
			if l.Op == n.Op && l.Name == n.Name {
				return countBy(l.Value)
			}
		}
		return fail(api.ErrName)
	case api.OpIf:
		switch of[0] {
		case value("1"):
			return of[1]
		case value("0"):
			return of[2]
		}
		if of[0].Err == api.OK {
			return fail(api.ErrType)
		}
		return of[0]
	}
	var operands []*big.Rat
	for _, o := range of {
		if o.Err != api.OK {
			return o
		}
		x, _ := bigOf(o.Value)
		operands = append(operands, x)
	}
	switch n.Op {
	case api.OpAnd, api.OpOr, api.OpNot:
		for _, o := range of {
			if o != value("0") && o != value("1") {
				return fail(api.ErrType)
			}
		}
	case api.OpDiv:
		if operands[1].Sign() == 0 {
			return fail(api.ErrZero)
		}
	case api.OpRate:
		for _, s := range env.Schedules {
			if s.Name == n.Name {
				y, errno := rate.At(s, of[0].Value)
				return api.Outcome{Value: y, Err: errno}
			}
		}
		return fail(api.ErrName)
	}
	return countBy(api.Outcome{Value: ratOf(valueBy(n, operands))})
}

// valueBy returns the value of a node that has one, whether it fits or not.
func valueBy(n api.Node, of []*big.Rat) *big.Rat {
	made := new(big.Rat)
	switch n.Op {
	case api.OpCash, api.OpDays, api.OpNumber, api.OpTruth:
		x, _ := bigOf(n.Num)
		return x
	case api.OpAdd:
		return made.Add(of[0], of[1])
	case api.OpSub:
		return made.Sub(of[0], of[1])
	case api.OpMul:
		return made.Mul(of[0], of[1])
	case api.OpDiv:
		return made.Quo(of[0], of[1])
	case api.OpMin, api.OpMax:
		if (of[0].Cmp(of[1]) < 0) == (n.Op == api.OpMin) {
			return of[0]
		}
		return of[1]
	case api.OpLess:
		return truthBy(of[0].Cmp(of[1]) < 0)
	case api.OpEqual:
		return truthBy(of[0].Cmp(of[1]) == 0)
	case api.OpAnd:
		return truthBy(of[0].Sign() == 1 && of[1].Sign() == 1)
	case api.OpOr:
		return truthBy(of[0].Sign() == 1 || of[1].Sign() == 1)
	case api.OpNot:
		return truthBy(of[0].Sign() == 0)
	}
	step, _ := bigOf(n.Num)
	below := floorBy(of[0], step)
	above := new(big.Rat).Add(below, step)
	down, up := made.Sub(of[0], below), new(big.Rat).Sub(above, of[0])
	if n.Op == api.OpUp && down.Sign() > 0 || n.Op == api.OpNear && down.Cmp(up) >= 0 {
		return above
	}
	return below
}

func truthBy(holds bool) *big.Rat {
	if holds {
		return big.NewRat(1, 1)
	}
	return new(big.Rat)
}

// floorBy returns the greatest multiple of step that is not greater than a.
func floorBy(a, step *big.Rat) *big.Rat {
	times := new(big.Rat).Quo(a, step)
	whole := new(big.Int).Div(times.Num(), times.Denom()) // rounds down, as the divisor is positive
	return new(big.Rat).Mul(new(big.Rat).SetInt(whole), step)
}

// traceBy returns the outcomes of the nodes of an expression, as the chapter defines them.
func traceBy(e []api.Node, env api.Env) []api.Outcome {
	operands, _ := expr.Args(e)
	var l []api.Outcome
	for at, n := range e {
		var of []api.Outcome
		for _, operand := range operands[at] {
			of = append(of, l[operand])
		}
		l = append(l, outcomeBy(n, of, env))
	}
	return l
}

// copyOf returns an environment that shares no memory with env.
func copyOf(env api.Env) api.Env {
	kept := api.Env{Links: slices.Clone(env.Links), Schedules: slices.Clone(env.Schedules)}
	for place := range kept.Schedules {
		kept.Schedules[place].Brackets = slices.Clone(kept.Schedules[place].Brackets)
	}
	return kept
}

// checkTrace checks what Trace and Eval return, and that they leave their arguments as they are.
func checkTrace(t *testing.T, e []api.Node, env api.Env, want []api.Outcome, last api.Outcome) {
	t.Helper()
	keptNodes, keptEnv := slices.Clone(e), copyOf(env)
	if got := eval.Trace(e, env); !slices.Equal(got, want) {
		t.Errorf("Trace of %d nodes %.300s: %.300v, not %.300v", len(e), written(e), got, want)
	}
	if got := eval.Eval(e, env); got != last {
		t.Errorf("Eval of %d nodes %.300s: %v, not %v", len(e), written(e), got, last)
	}
	if !slices.Equal(e, keptNodes) || !reflect.DeepEqual(env, keptEnv) {
		t.Errorf("Eval of %.300s changes its arguments", written(e))
	}
}

// checkEval checks the outcomes of an expression, that of the last node as it is given, and those of all nodes by their definition.
func checkEval(t *testing.T, e []api.Node, env api.Env, want api.Outcome) {
	t.Helper()
	checkTrace(t, e, env, traceBy(e, env), want)
}

// checkOp checks what Op returns for a node, and that it leaves its arguments as they are.
func checkOp(t *testing.T, n api.Node, args []api.Outcome, env api.Env, want api.Outcome) {
	t.Helper()
	keptArgs, keptEnv := slices.Clone(args), copyOf(env)
	if got := eval.Op(n, args, env); got != want {
		t.Errorf("Op of %.300v for %.300v: %v, not %v", n, args, got, want)
	}
	if !slices.Equal(args, keptArgs) || !reflect.DeepEqual(env, keptEnv) {
		t.Errorf("Op of %.300v changes its arguments", n)
	}
}

// schedule returns a schedule with brackets whose From and Rate take turns.
func schedule(name string, numbers ...string) api.Schedule {
	s := api.Schedule{Name: name}
	for place := 0; place < len(numbers); place += 2 {
		s.Brackets = append(s.Brackets, api.Bracket{From: num(numbers[place]), Rate: num(numbers[place+1])})
	}
	return s
}

func TestExamples(t *testing.T) {
	s := schedule("s", "0", "0", "100", "1/10", "300", "1/4")
	x := func(o api.Outcome) api.Env {
		return api.Env{Links: []api.Link{{Op: api.OpOwn, Name: "x", Value: o}}}
	}
	for _, row := range []struct {
		text string
		env  api.Env
		want api.Outcome
	}{
		{"add($1/2, $1/3)", api.Env{}, value("5/6")},
		{"if(yes, 1, div(1, 0))", api.Env{}, value("1")},
		{"if(no, 1, div(1, 0))", api.Env{}, fail(api.ErrZero)},
		{"and(yes, 2)", api.Env{}, fail(api.ErrType)},
		{"or(2, div(1, 0))", api.Env{}, fail(api.ErrZero)},
		{"own.x", api.Env{}, fail(api.ErrName)},
		{"own.x", x(value("5")), value("5")},
		{"add(own.x, div(1, 0))", x(fail(api.ErrCycle)), fail(api.ErrCycle)},
		{"near[1/2](5/4)", api.Env{}, value("3/2")},
		{"down[1/2](-1/4)", api.Env{}, value("-1/2")},
		{"rate.s(200)", api.Env{Schedules: []api.Schedule{s}}, value("10")},
		{"rate.s(200)", api.Env{}, fail(api.ErrName)},
	} {
		checkEval(t, parsed(row.text), row.env, row.want)
	}
	checkTrace(t, parsed("sub(1, 3)"), api.Env{}, []api.Outcome{value("1"), value("3"), value("-2")}, value("-2"))
	checkOp(t, api.Node{Op: api.OpNot}, nil, api.Env{}, fail(api.ErrForm))
	checkTrace(t, nil, api.Env{}, nil, fail(api.ErrForm))
}
