package eval_test

import (
	"math/big"
	"slices"
	"strings"
	"testing"

	"tithing/api"
	"tithing/ratio"
)

// power returns 2 to the power of so many bits, with so much added.
func power(bits uint, more int64) api.Rat {
	x := new(big.Int).Lsh(big.NewInt(1), bits)
	return ratOf(new(big.Rat).SetInt(x.Add(x, big.NewInt(more))))
}

// inverse returns 1 / a.
func inverse(a api.Rat) api.Rat {
	b, _ := ratio.Quo(ratio.Of(1), a)
	return b
}

// wrong returns api.Rats that are no amounts, for each of the reasons.
func wrong() []api.Rat {
	return []api.Rat{
		{}, {Neg: true}, {Num: "\x01"}, {Num: "\x05", Neg: true}, // the denominator is 0
		{Num: "\x00", Den: "\x01"}, {Num: "\x00\x01", Den: "\x01"}, {Num: "\x01", Den: "\x00\x01"}, // zeros in front
		{Num: "\x04", Den: "\x02"}, {Num: "\x05", Den: "\x05"}, {Num: "\x0a", Den: "\x04", Neg: true}, // a common divisor
		{Den: "\x02"}, {Den: "\x01", Neg: true}, // 0 with another denominator, or a sign
	}
}

// long returns amounts that do not fit, by a bit or by many.
func long() []api.Rat {
	below, _ := ratio.Quo(power(399, 1), power(400, 0))
	return []api.Rat{power(400, 0), ratio.Neg(power(400, 0)), inverse(power(400, 0)), ratio.Neg(inverse(power(400, 0))), below, power(900, 7), inverse(power(900, 7))}
}

// longest returns amounts that just fit.
func longest() []api.Rat {
	below, _ := ratio.Quo(power(400, -3), power(400, -1))
	return []api.Rat{power(400, -1), ratio.Neg(power(400, -1)), inverse(power(400, -1)), ratio.Neg(inverse(power(400, -1))), below, ratio.Neg(below)}
}

// amounts are amounts that fit: small, middle-sized and long ones.
var amounts = append(
	[]api.Rat{num("0"), num("1"), num("-1"), num("2"), num("1/2"), num("-1/3"), num("7/2"), num("-5/4"), num("100"), num("18446744073709551616"), power(199, 0), power(200, 0), power(200, 1), inverse(power(200, 0)), power(399, 0), ratio.Neg(power(399, 0))},
	longest()...)

// outcomes returns outcomes that count as values and as errors, for all of the reasons.
func outcomes() []api.Outcome {
	var l []api.Outcome
	for _, a := range slices.Concat(amounts, wrong(), long()) {
		l = append(l, api.Outcome{Value: a})
	}
	for _, errno := range []api.Errno{api.ErrArg, api.ErrRange, api.ErrType, api.ErrCycle, -1, 1000} {
		l = append(l, fail(errno), api.Outcome{Value: num("1"), Err: errno}, api.Outcome{Value: power(400, 0), Err: errno})
	}
	return l
}

// fewOutcomes returns some of outcomes.
func fewOutcomes() []api.Outcome {
	return []api.Outcome{value("0"), value("1"), value("-1"), value("2"), {Value: longest()[0]}, {}, {Value: long()[0]}, fail(api.ErrCycle), {Value: num("1"), Err: api.ErrArg}, {Value: num("0"), Err: api.ErrZero}}
}

// someEnv returns an environment with links and schedules of all kinds.
func someEnv() api.Env {
	var env api.Env
	for op := api.OpFact; op <= api.OpSpouse; op++ {
		for place, o := range outcomes() {
			env.Links = append(env.Links, api.Link{Op: op, Name: "l" + ratio.Text(ratio.Of((place+op)%len(outcomes()))), Value: o})
		}
	}
	env.Schedules = []api.Schedule{
		schedule("s", "0", "0", "100", "1/10", "300", "1/4"),
		schedule("falling", "0", "1", "10", "-2"),
		schedule("whole", "0", "1"),
		{Name: "steep", Brackets: []api.Bracket{{From: num("0"), Rate: longest()[0]}}},
		{Name: "long", Brackets: []api.Bracket{{From: num("0"), Rate: long()[0]}}},
		schedule("one", "1", "1"),
		schedule("many", "0", "1", "1", "1", "2", "1", "3", "1", "4", "1", "5", "1", "6", "1", "7", "1", "8", "1"),
		{Name: "empty"},
	}
	return env
}

// listsOf returns all lists of so many of these outcomes.
func listsOf(count int, of []api.Outcome) [][]api.Outcome {
	if count == 0 {
		return [][]api.Outcome{nil}
	}
	var l [][]api.Outcome
	for _, before := range listsOf(count-1, of) {
		for _, o := range of {
			l = append(l, append(slices.Clone(before), o))
		}
	}
	return l
}

// nodesOf returns nodes of an operator that are as they should be.
func nodesOf(op int, env api.Env) []api.Node {
	var l []api.Node
	switch op {
	case api.OpCash, api.OpDays, api.OpNumber:
		for _, a := range amounts {
			l = append(l, api.Node{Op: op, Num: a})
		}
	case api.OpTruth:
		l = append(l, api.Node{Op: op, Num: num("0")}, api.Node{Op: op, Num: num("1")})
	case api.OpFact, api.OpOwn, api.OpPrior, api.OpSpouse:
		for _, link := range env.Links {
			l = append(l, api.Node{Op: op, Name: link.Name})
		}
		l = append(l, api.Node{Op: op, Name: "none"})
	case api.OpDown, api.OpUp, api.OpNear:
		for _, a := range amounts {
			if ratio.Sign(a) > 0 {
				l = append(l, api.Node{Op: op, Num: a})
			}
		}
	case api.OpRate:
		for _, s := range env.Schedules {
			l = append(l, api.Node{Op: op, Name: s.Name})
		}
		l = append(l, api.Node{Op: op, Name: "none"})
	default:
		l = append(l, api.Node{Op: op})
	}
	return l
}

// TestP9_1Outcomes checks all operators for outcomes of their operands of all kinds.
func TestP9_1Outcomes(t *testing.T) {
	env := someEnv()
	for op := api.OpCash; op <= api.OpRate; op++ {
		of := outcomes()
		if op == api.OpIf {
			of = fewOutcomes()
		}
		for _, args := range listsOf(operandsBy(op), of) {
			var counts []api.Outcome
			for _, arg := range args {
				counts = append(counts, countBy(arg))
			}
			for _, n := range nodesOf(op, env) {
				checkOp(t, n, args, env, outcomeBy(n, counts, env))
			}
		}
	}
}

// TestP9_1Form checks nodes that are as the table says or not, for all numbers of arguments.
func TestP9_1Form(t *testing.T) {
	env := api.Env{Links: []api.Link{{Op: api.OpOwn, Name: "a", Value: value("5")}}, Schedules: []api.Schedule{schedule("a", "0", "1/2")}}
	nums := append([]api.Rat{{}, num("0"), num("1"), num("2"), num("1/2"), num("-1"), longest()[0], long()[0]}, wrong()...)
	names := []string{"", "a", "z9_", "A", "_a", "9", "a b", "a-", "é", "aé", "a\x00", "a\n", strings.Repeat("a", 20), strings.Repeat("a", 21)}
	ops := []int{-1 << 63, -1<<63 + 6, -9, 1 << 8, 1<<8 + 9, 1<<32 + 3, 1<<32 + 9, 1<<62 + 20, 1<<63 - 1}
	for op := -2; op <= 28; op++ {
		ops = append(ops, op)
	}
	for _, op := range ops {
		for _, a := range nums {
			for _, name := range names {
				n := api.Node{Op: op, Num: a, Name: name}
				for _, count := range []int{0, 1, 2, 3, 4, 59, 60, 61} {
					args := slices.Repeat([]api.Outcome{value("1")}, count)
					want := fail(api.ErrForm)
					if formBy(n) && count == operandsBy(op) {
						want = outcomeBy(n, args, env)
					}
					checkOp(t, n, args, env, want)
				}
			}
		}
	}
}

// TestP9_1FormFirst checks that a wrong node or number of arguments is found before what the arguments are.
func TestP9_1FormFirst(t *testing.T) {
	for _, o := range fewOutcomes() {
		for _, n := range []api.Node{{Op: api.OpNot, Name: "a"}, {Op: api.OpRate}, {Op: api.OpRate, Name: "A"}, {Op: api.OpDown, Num: num("0")}, {Op: api.OpAdd}, {Op: api.OpIf}, {Op: api.OpOwn, Name: "a"}, {Op: api.OpNumber, Num: num("1")}} {
			checkOp(t, n, []api.Outcome{o}, api.Env{}, fail(api.ErrForm))
		}
	}
}

// TestP9_1Order checks which of several errors a node has.
func TestP9_1Order(t *testing.T) {
	env := api.Env{Schedules: []api.Schedule{{Name: "empty"}}}
	cycle, late, long := fail(api.ErrCycle), fail(api.ErrLate), api.Outcome{Value: long()[0]}
	for _, x := range []struct {
		n    api.Node
		args []api.Outcome
		want api.Errno
	}{
		{api.Node{Op: api.OpAnd}, []api.Outcome{value("2"), cycle}, api.ErrCycle},
		{api.Node{Op: api.OpOr}, []api.Outcome{cycle, value("2")}, api.ErrCycle},
		{api.Node{Op: api.OpAnd}, []api.Outcome{value("0"), value("2")}, api.ErrType},
		{api.Node{Op: api.OpOr}, []api.Outcome{value("1"), value("2")}, api.ErrType},
		{api.Node{Op: api.OpNot}, []api.Outcome{long}, api.ErrRange},
		{api.Node{Op: api.OpDiv}, []api.Outcome{cycle, value("0")}, api.ErrCycle},
		{api.Node{Op: api.OpDiv}, []api.Outcome{value("0"), value("0")}, api.ErrZero},
		{api.Node{Op: api.OpAdd}, []api.Outcome{cycle, late}, api.ErrCycle},
		{api.Node{Op: api.OpAdd}, []api.Outcome{late, cycle}, api.ErrLate},
		{api.Node{Op: api.OpMin}, []api.Outcome{long, cycle}, api.ErrRange},
		{api.Node{Op: api.OpEqual}, []api.Outcome{long, long}, api.ErrRange},
		{api.Node{Op: api.OpIf}, []api.Outcome{value("2"), cycle, late}, api.ErrType},
		{api.Node{Op: api.OpIf}, []api.Outcome{cycle, late, late}, api.ErrCycle},
		{api.Node{Op: api.OpIf}, []api.Outcome{long, late, late}, api.ErrRange},
		{api.Node{Op: api.OpIf}, []api.Outcome{value("1"), cycle, late}, api.ErrCycle},
		{api.Node{Op: api.OpIf}, []api.Outcome{value("0"), cycle, late}, api.ErrLate},
		{api.Node{Op: api.OpRate, Name: "none"}, []api.Outcome{cycle}, api.ErrCycle},
		{api.Node{Op: api.OpRate, Name: "none"}, []api.Outcome{value("1")}, api.ErrName},
		{api.Node{Op: api.OpRate, Name: "empty"}, []api.Outcome{cycle}, api.ErrCycle},
		{api.Node{Op: api.OpRate, Name: "empty"}, []api.Outcome{value("1")}, api.ErrForm},
	} {
		checkOp(t, x.n, x.args, env, fail(x.want))
	}
}

// TestP9_1Fits checks values that just fit, and those that do not.
func TestP9_1Fits(t *testing.T) {
	top := longest()[0]
	for _, x := range []struct {
		n    api.Node
		args []api.Rat
		fits bool
	}{
		{api.Node{Op: api.OpAdd}, []api.Rat{power(400, -2), num("1")}, true},
		{api.Node{Op: api.OpAdd}, []api.Rat{top, num("1")}, false},
		{api.Node{Op: api.OpSub}, []api.Rat{ratio.Neg(top), num("1")}, false},
		{api.Node{Op: api.OpMul}, []api.Rat{power(200, 0), power(199, 0)}, true},
		{api.Node{Op: api.OpMul}, []api.Rat{power(200, 0), power(200, 0)}, false},
		{api.Node{Op: api.OpDiv}, []api.Rat{inverse(power(200, 0)), power(199, 0)}, true},
		{api.Node{Op: api.OpDiv}, []api.Rat{inverse(power(200, 0)), power(200, 0)}, false},
		{api.Node{Op: api.OpUp, Num: power(399, 0)}, []api.Rat{power(399, 0)}, true},
		{api.Node{Op: api.OpUp, Num: power(399, 0)}, []api.Rat{power(399, 1)}, false},
		{api.Node{Op: api.OpDown, Num: power(399, 0)}, []api.Rat{ratio.Neg(power(399, 1))}, false},
		{api.Node{Op: api.OpNear, Num: power(399, 0)}, []api.Rat{top}, false},
		{api.Node{Op: api.OpRate, Name: "whole"}, []api.Rat{top}, true},
		{api.Node{Op: api.OpRate, Name: "double"}, []api.Rat{top}, false},
	} {
		env := api.Env{Schedules: []api.Schedule{schedule("whole", "0", "1"), schedule("double", "0", "2")}}
		var args []api.Outcome
		for _, a := range x.args {
			args = append(args, api.Outcome{Value: a})
		}
		want := outcomeBy(x.n, args, env)
		checkOp(t, x.n, args, env, want)
		if (want.Err == api.OK) != x.fits {
			t.Errorf("Op of %v: %d", x.n.Op, want.Err)
		}
	}
}
