package expr_test

import (
	"cmp"
	"math"
	"math/rand/v2"
	"slices"
	"strings"
	"testing"

	"tithing/api"
	"tithing/expr"
	"tithing/ratio"
)

func TestP7_4Refs(t *testing.T) {
	checkRefs(t, parsed("add(1, not(yes))"), nil)
	checkRefs(t, parsed("fact.a"), []api.Node{{Op: api.OpFact, Name: "a"}})
	checkRefs(t, parsed("rate.s(1)"), []api.Node{{Op: api.OpRate, Name: "s"}})
	all := parsed("add(rate.a(rate.c(own.b)), add(spouse.z, add(prior.a, add(own.b, add(own.a_, add(own.a0, add(own.a, add(fact.zz, add(fact.z, fact.z)))))))))")
	checkRefs(t, all, []api.Node{
		{Op: api.OpFact, Name: "z"}, {Op: api.OpFact, Name: "zz"}, {Op: api.OpOwn, Name: "a"}, {Op: api.OpOwn, Name: "a0"}, {Op: api.OpOwn, Name: "a_"}, {Op: api.OpOwn, Name: "b"},
		{Op: api.OpPrior, Name: "a"}, {Op: api.OpSpouse, Name: "z"}, {Op: api.OpRate, Name: "a"}, {Op: api.OpRate, Name: "c"},
	})
	for _, s := range someSamples(5, 1000) {
		checkRefs(t, s.nodes, refsBy(s.nodes))
	}
}

// refsBy returns the nodes that have a name by going through all operators.
func refsBy(e []api.Node) []api.Node {
	var found []api.Node
	for op := api.OpCash; op <= api.OpRate; op++ {
		var texts []string
		for _, n := range e {
			if n.Op == op && n.Name != "" && !slices.Contains(texts, n.Name) {
				texts = append(texts, n.Name)
			}
		}
		slices.SortFunc(texts, cmp.Compare[string])
		for _, text := range texts {
			found = append(found, api.Node{Op: op, Name: text})
		}
	}
	return found
}

// TestP7_4Others checks lists that are no expressions, though they have names.
func TestP7_4Others(t *testing.T) {
	own := api.Node{Op: api.OpOwn, Name: "a"}
	for _, e := range [][]api.Node{nil, {}, {own, own}, {own, {Op: api.OpAdd}}, {own, {}, {Op: api.OpAdd}}, {{Op: api.OpOwn, Name: "A"}}, {{Op: api.OpOwn, Name: "a", Num: num("1")}}, slices.Repeat([]api.Node{own}, 61)} {
		checkRefs(t, e, nil)
	}
}

func TestP7_5Subst(t *testing.T) {
	for _, x := range []struct{ e, name, by, want string }{
		{"own.a", "a", "1", "1"},
		{"own.a", "a", "own.a", "own.a"},
		{"own.a", "a", "add(own.a, own.a)", "add(own.a, own.a)"}, // what is put in is not searched again
		{"own.a", "b", "1", "own.a"},
		{"add(own.a, own.b)", "a", "mul(own.b, 2)", "add(mul(own.b, 2), own.b)"},
		{"add(own.b, own.a)", "a", "mul(own.b, 2)", "add(own.b, mul(own.b, 2))"},
		{"add(own.a, own.a)", "a", "own.b", "add(own.b, own.b)"},
		{"if(own.a, not(own.a), rate.a(own.a))", "a", "$1", "if($1, not($1), rate.a($1))"},
		{"add(fact.a, add(prior.a, add(spouse.a, rate.a(own.a))))", "a", "no", "add(fact.a, add(prior.a, add(spouse.a, rate.a(no))))"},
		{"add(own.a, own.aa)", "a", "1", "add(1, own.aa)"},
		{"add(own.a, own.aa)", "aa", "1", "add(own.a, 1)"},
		{"add(own.a, 1)", "", "1", "add(own.a, 1)"},
		{"add(own.a, 1)", "A", "1", "add(own.a, 1)"},
		{"add(own.a, 1)", strings.Repeat("a", 1000), "1", "add(own.a, 1)"},
		{"add(1, 2)", "a", "own.a", "add(1, 2)"},
		{"near[1/2](own.a)", "a", "max(1, 2)", "near[1/2](max(1, 2))"},
	} {
		checkSubst(t, parsed(x.e), x.name, parsed(x.by), parsed(x.want), api.OK)
	}
}

// TestP7_5Samples checks Subst with texts: the text of the result is that of the expression with the one text for the other.
func TestP7_5Samples(t *testing.T) {
	l := someSamples(6, 600)
	r := rand.New(rand.NewPCG(7, 66))
	replaced := 0
	for _, s := range l {
		for _, of := range []string{"a", "z", "own"} {
			by := l[r.IntN(300)]
			more := strings.Count(s.text+",", "own."+of+",") + strings.Count(s.text, "own."+of+")")
			if len(s.nodes)+more*(len(by.nodes)-1) > api.MaxNodes {
				checkSubst(t, s.nodes, of, by.nodes, nil, api.ErrMany)
				continue
			}
			text := strings.NewReplacer("own."+of+",", by.text+",", "own."+of+")", by.text+")", "own."+of+";", by.text).Replace(s.text + ";")
			checkSubst(t, s.nodes, of, by.nodes, parsed(strings.TrimSuffix(text, ";")), api.OK)
			replaced += more
		}
	}
	if replaced < 20 {
		t.Errorf("only %d nodes have been replaced", replaced)
	}
}

// TestP7_5Many checks results of as many nodes as are permitted, and of more.
func TestP7_5Many(t *testing.T) {
	nots := func(count int, of string) []api.Node {
		return parsed(strings.Repeat("not(", count) + of + strings.Repeat(")", count))
	}
	checkSubst(t, nots(30, "own.a"), "a", nots(29, "own.b"), nots(59, "own.b"), api.OK)
	checkSubst(t, nots(30, "own.a"), "a", nots(30, "own.b"), nil, api.ErrMany)
	checkSubst(t, nots(30, "own.a"), "b", nots(59, "own.b"), nots(30, "own.a"), api.OK)
	checkSubst(t, nots(59, "own.a"), "a", nots(1, "own.b"), nil, api.ErrMany)
	checkSubst(t, nots(59, "own.a"), "a", parsed("own.b"), nots(59, "own.b"), api.OK)
	checkSubst(t, parsed("own.a"), "a", nots(59, "own.a"), nots(59, "own.a"), api.OK)
	many := parsed(strings.Repeat("add(own.a, ", 29) + "own.a" + strings.Repeat(")", 29))
	checkSubst(t, many, "a", parsed("not(1)"), nil, api.ErrMany)
	checkSubst(t, many, "a", many, nil, api.ErrMany)
}

// TestP7_5Order checks that the error of e comes before that of by.
func TestP7_5Order(t *testing.T) {
	right := parsed("own.a")
	errors := map[api.Errno][]api.Node{api.ErrForm: nil, api.ErrName: {{Op: api.OpOwn}}, api.ErrMany: yes(61)}
	for first, e := range errors {
		for second, by := range errors {
			checkSubst(t, e, "a", by, nil, first)
			checkSubst(t, right, "a", by, nil, second)
			checkSubst(t, right, "b", by, nil, second) // even if by is not needed
		}
		checkSubst(t, e, "a", right, nil, first)
	}
}

func TestP7_6Swap(t *testing.T) {
	for _, x := range []struct {
		e    string
		at   int
		num  string
		want string
	}{
		{"1", 0, "2", "2"}, {"$1", 0, "-1/2", "$-1/2"}, {"1d", 0, "0", "0d"}, {"yes", 0, "0", "no"}, {"no", 0, "1", "yes"}, {"no", 0, "0", "no"}, {"1", 0, "1", "1"},
		{"add(1, 2)", 1, "1", "add(1, 1)"}, {"down[5](7)", 1, "1/5", "down[1/5](7)"}, {"up[1](own.a)", 1, "2", "up[2](own.a)"}, {"near[1](own.a)", 1, "2", "near[2](own.a)"},
		{"if(yes, $1, min(2, 3d))", 2, "9", "if(yes, $1, min(9, 3d))"}, {"if(yes, $1, min(2, 3d))", 3, "9", "if(yes, $1, min(2, 9d))"},
	} {
		checkSwap(t, parsed(x.e), x.at, num(x.num), parsed(x.want), api.OK)
	}
}

func TestP7_6Arguments(t *testing.T) {
	for _, at := range []int{-1, 1, 2, 60, 61, math.MaxInt, math.MinInt} {
		for _, a := range []api.Rat{num("1"), {}} {
			checkSwap(t, parsed("2"), at, a, nil, api.ErrArg)
		}
	}
	e := parsed("if(fact.a, add(own.b, prior.c), rate.d(not(spouse.e)))")
	for at := range e {
		for _, a := range []api.Rat{num("0"), num("1"), {}} {
			checkSwap(t, e, at, a, nil, api.ErrArg)
		}
	}
}

// TestP7_6Samples swaps every Num of expressions to each kind of Num.
func TestP7_6Samples(t *testing.T) {
	kinds := map[int]row{}
	for _, w := range rows {
		kinds[w.op] = w
	}
	for _, s := range someSamples(7, 180) {
		for at, n := range s.nodes {
			w := kinds[n.Op]
			for _, c := range candidates() {
				swapped := slices.Clone(s.nodes)
				swapped[at].Num = c.num
				switch {
				case w.has == nothing || w.has == name:
					checkSwap(t, s.nodes, at, c.num, nil, api.ErrArg)
				case !w.allows(c):
					checkSwap(t, s.nodes, at, c.num, nil, api.ErrForm)
				default:
					checkSwap(t, s.nodes, at, c.num, swapped, api.OK)
				}
			}
		}
	}
}

func TestP7_7Same(t *testing.T) {
	a := api.Node{Op: api.OpOwn, Name: "a", Num: num("1")}
	others := []api.Node{{}, {Op: api.OpFact, Name: "a", Num: num("1")}, {Op: api.OpOwn, Name: "b", Num: num("1")}, {Op: api.OpOwn, Name: "a", Num: num("2")}, {Op: api.OpOwn, Name: "a", Num: num("-1")}, {Op: api.OpOwn, Name: "a", Num: num("1/2")}, {Op: api.OpOwn, Name: "a"}}
	lists := [][]api.Node{{}, {a}, {a, a}, yes(61), append(yes(60), a)}
	for _, n := range others {
		lists = append(lists, []api.Node{n}, []api.Node{a, n}, []api.Node{n, a}, append(yes(60), n))
	}
	for place, x := range lists {
		for other, y := range lists {
			if got := expr.Same(slices.Clone(x), slices.Clone(y)); got != (place == other) {
				t.Errorf("Same of %v and %v: %t", x, y, got)
			}
		}
	}
	if !expr.Same(nil, []api.Node{}) || !expr.Same([]api.Node{}, nil) || !expr.Same(nil, nil) || expr.Same(nil, []api.Node{a}) || expr.Same([]api.Node{a}, nil) {
		t.Error("Same with nil")
	}
}

// TestP7_8Texts checks that different expressions have different texts: those of one node, and those of several.
func TestP7_8Texts(t *testing.T) {
	texts := map[string][]api.Node{}
	check := func(e []api.Node) {
		text, errno := expr.Text(e)
		if other, ok := texts[text]; errno != api.OK || ok && !expr.Same(e, other) {
			t.Errorf("%v and %v have the text %q, %d", e, other, text, errno)
		}
		texts[text] = e
	}
	for _, w := range rows {
		for _, c := range candidates() {
			for _, text := range append(names(), "") {
				if w.allows(c) && (w.has == name) == (text != "") {
					check(append(yes(w.operands), api.Node{Op: w.op, Num: c.num, Name: text}))
				}
			}
		}
	}
	for _, s := range someSamples(8, 3000) {
		check(s.nodes)
	}
}

// TestP7_8Results checks that Subst and Swap return expressions, and that swapping back gives the same one.
func TestP7_8Results(t *testing.T) {
	l := someSamples(9, 600)
	for place, s := range l {
		if made, errno := expr.Subst(s.nodes, "a", l[len(l)-1-place].nodes); errno == api.OK && expr.Check(made) != api.OK {
			t.Errorf("Subst of own.a in %s: %v", s.text, made)
		}
		for at, n := range s.nodes {
			for _, a := range []api.Rat{num("0"), num("1"), num("-1"), ratio.Neg(n.Num), {}} {
				swapped, errno := expr.Swap(s.nodes, at, a)
				if errno != api.OK {
					continue
				}
				back, errno := expr.Swap(swapped, at, n.Num)
				if expr.Check(swapped) != api.OK || errno != api.OK || !expr.Same(back, s.nodes) {
					t.Errorf("Swap of node %d in %s: %v, and back: %v, %d", at, s.text, swapped, back, errno)
				}
			}
		}
	}
}
