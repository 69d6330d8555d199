package expr_test

import (
	"math"
	"slices"
	"testing"

	"tithing/api"
	"tithing/expr"
)

// candidate is a Num that a node may have, and whether it is one of each kind.
type candidate struct {
	num                          api.Rat
	isAmount, isPositive, isTrue bool
}

// candidates returns the Nums of all kinds, and those of none.
func candidates() []candidate {
	l := []candidate{{num("0"), true, false, true}, {num("1"), true, true, true}}
	for _, text := range []string{"2", "1/2", "100", "1/100", "-1", "-1/2", "-100"} {
		l = append(l, candidate{num(text), true, text[0] != '-', false})
	}
	for _, a := range longest() {
		l = append(l, candidate{a, true, !a.Neg, false})
	}
	for _, a := range append(wrong(), long()...) {
		l = append(l, candidate{num: a})
	}
	return l
}

// allows reports whether a node of the row may have the Num.
func (w row) allows(c candidate) bool {
	switch w.has {
	case amount:
		return c.isAmount
	case positive:
		return c.isPositive
	case truth:
		return c.isTrue
	}
	return c.num == api.Rat{}
}

// TestP7_1Nodes checks every operator with all kinds of Nums and names, and with fewer, as many and more elements than operands.
func TestP7_1Nodes(t *testing.T) {
	for _, w := range rows {
		for _, c := range candidates() {
			for place, text := range slices.Concat([]string{""}, names(), noNames()) {
				isName := 1 <= place && place <= len(names())
				errno := api.OK
				switch {
				case !w.allows(c), w.has != name && text != "":
					errno = api.ErrForm
				case w.has == name && !isName:
					errno = api.ErrName
				}
				n := api.Node{Op: w.op, Num: c.num, Name: text}
				for elements := range 5 {
					want := errno
					if errno == api.OK && elements != w.operands {
						want = api.ErrForm
					}
					if got := expr.Check(append(yes(elements), n)); got != want {
						t.Errorf("Check of %.100v after %d elements: %d, not %d", n, elements, got, want)
					}
				}
			}
		}
	}
}

func TestP7_1Operators(t *testing.T) {
	for _, op := range []int{0, 25, 26, 100, 255, 256, 257, -1, -24, math.MaxInt, math.MinInt} {
		for elements := range 4 {
			for _, n := range []api.Node{{}, {Num: num("1")}, {Num: num("0")}, {Name: "a"}, {Name: "A"}, {Num: num("1"), Name: "a"}} {
				n.Op = op
				checkErrno(t, append(yes(elements), n), api.ErrForm)
			}
		}
	}
}

// errnoBy returns the error of a list by the definition; the numbers of operands, and the errors that nodes have by themselves, are given.
func errnoBy(e []api.Node, operands map[api.Node]int, wrong map[api.Node]api.Errno) api.Errno {
	elements := 0
	for _, n := range e {
		if errno := wrong[n]; errno != api.OK {
			return errno
		}
		if elements < operands[n] {
			return api.ErrForm
		}
		elements += 1 - operands[n]
	}
	if elements != 1 {
		return api.ErrForm
	}
	return api.OK
}

// startBy returns where the expression begins that ends with a node.
func startBy(e []api.Node, at int, operands map[api.Node]int) int {
	start := at
	for range operands[e[at]] {
		start = startBy(e, start-1, operands)
	}
	return start
}

// argsBy returns the operands of a node, found backwards from it.
func argsBy(e []api.Node, at int, operands map[api.Node]int) []int {
	var found []int
	start := at
	for range operands[e[at]] {
		found = append(found, start-1)
		start = startBy(e, start-1, operands)
	}
	slices.Reverse(found)
	return found
}

// TestP7_1Lists checks all short lists of nodes with none to three operands, or with an error.
func TestP7_1Lists(t *testing.T) {
	operands := map[api.Node]int{yes(1)[0]: 0, {Op: api.OpNot}: 1, {Op: api.OpRate, Name: "a"}: 1, {Op: api.OpSub}: 2, {Op: api.OpIf}: 3}
	wrong := map[api.Node]api.Errno{{Op: api.OpOwn}: api.ErrName, {Op: api.OpNot, Num: num("1")}: api.ErrForm}
	lists := [][]api.Node{nil}
	for length := 0; length <= 5; length++ {
		var longer [][]api.Node
		for _, e := range lists {
			errno := errnoBy(e, operands, wrong)
			checkErrno(t, e, errno)
			if errno == api.OK {
				var want [][]int
				for at := range e {
					want = append(want, argsBy(e, at, operands))
				}
				checkArgs(t, e, want)
			}
			for n := range operands {
				longer = append(longer, append(slices.Clone(e), n))
			}
			for n := range wrong {
				longer = append(longer, append(slices.Clone(e), n))
			}
		}
		lists = longer
	}
}

// TestP7_1Many checks lists of as many nodes as are permitted, and longer ones, with and without other errors.
func TestP7_1Many(t *testing.T) {
	chain := append(yes(1), slices.Repeat([]api.Node{{Op: api.OpNot}}, api.MaxNodes)...)
	checkErrno(t, chain[:api.MaxNodes], api.OK)
	checkErrno(t, chain, api.ErrMany)
	wide := append(yes(30), slices.Repeat([]api.Node{{Op: api.OpAnd}}, 29)...)
	checkErrno(t, append(slices.Clone(wide), api.Node{Op: api.OpNot}), api.OK)
	checkErrno(t, append(slices.Clone(wide), api.Node{Op: api.OpNot}, api.Node{Op: api.OpNot}), api.ErrMany)
	for _, n := range []api.Node{{}, {Op: api.OpOwn}, {Op: api.OpAdd}, yes(1)[0], {Op: api.OpNumber}} {
		checkErrno(t, slices.Repeat([]api.Node{n}, 61), api.ErrMany)
		checkErrno(t, slices.Repeat([]api.Node{n}, 100000), api.ErrMany)
		checkErrno(t, append(slices.Clone(chain), n), api.ErrMany)
	}
	checkErrno(t, slices.Repeat([]api.Node{{Op: api.OpOwn}}, 60), api.ErrName)
	checkErrno(t, yes(60), api.ErrForm)
}

// TestP7_1Order checks lists in which several nodes have errors, and nodes that have several.
func TestP7_1Order(t *testing.T) {
	named, form, fewer := api.Node{Op: api.OpFact, Name: "Fact"}, api.Node{Op: api.OpTruth}, api.Node{Op: api.OpNot}
	one := yes(1)[0]
	checkErrno(t, []api.Node{named, form}, api.ErrName)
	checkErrno(t, []api.Node{one, named, form, fewer}, api.ErrName)
	checkErrno(t, []api.Node{form, named}, api.ErrForm)
	checkErrno(t, []api.Node{fewer, named}, api.ErrForm)
	checkErrno(t, []api.Node{one, one, named}, api.ErrName) // not that there are several elements at the end
	checkErrno(t, []api.Node{{Op: api.OpRate}}, api.ErrName)
	checkErrno(t, []api.Node{{Op: api.OpRate, Num: num("1")}}, api.ErrForm)
	checkErrno(t, []api.Node{{Op: api.OpOwn, Num: num("0")}}, api.ErrForm)
	checkErrno(t, []api.Node{{Op: api.OpOwn, Num: num("0"), Name: "a"}}, api.ErrForm)
	checkErrno(t, []api.Node{{Op: api.OpNumber, Num: num("0"), Name: "A"}}, api.ErrForm)
}

// TestP7_2Samples checks the operands of expressions of all sizes.
func TestP7_2Samples(t *testing.T) {
	for _, s := range someSamples(2, 1200) {
		checkErrno(t, s.nodes, api.OK)
		checkArgs(t, s.nodes, s.args)
	}
}
