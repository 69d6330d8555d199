package expr_test

import (
	"math/rand/v2"
	"slices"
	"strings"
	"testing"

	"tithing/api"
	"tithing/expr"
	"tithing/ratio"
)

// checkText checks that an expression has a text, and the text this expression.
func checkText(t *testing.T, e []api.Node, text string) {
	t.Helper()
	if got, errno := expr.Text(e); got != text || errno != api.OK {
		t.Errorf("Text of %.300v: %q, %d, not %q", e, got, errno, text)
	}
	if got, errno := expr.Parse(text); !slices.Equal(got, e) || errno != api.OK {
		t.Errorf("Parse of %q: %v, %d, not %v", text, got, errno, e)
	}
}

func TestP7_3Samples(t *testing.T) {
	for _, s := range someSamples(3, 3000) {
		checkText(t, s.nodes, s.text)
	}
}

// TestP7_3Words checks the texts of the operators, word by word.
func TestP7_3Words(t *testing.T) {
	n, a := num("-5/2"), yes(3)
	for op, text := range map[int]string{api.OpCash: "$-5/2", api.OpDays: "-5/2d", api.OpNumber: "-5/2"} {
		checkText(t, []api.Node{{Op: op, Num: n}}, text)
	}
	checkText(t, []api.Node{{Op: api.OpTruth, Num: num("0")}}, "no")
	checkText(t, []api.Node{{Op: api.OpTruth, Num: num("1")}}, "yes")
	for op, text := range map[int]string{api.OpFact: "fact.x", api.OpOwn: "own.x", api.OpPrior: "prior.x", api.OpSpouse: "spouse.x"} {
		checkText(t, []api.Node{{Op: op, Name: "x"}}, text)
	}
	for op, word := range map[int]string{api.OpAdd: "add", api.OpSub: "sub", api.OpMul: "mul", api.OpDiv: "div", api.OpMin: "min", api.OpMax: "max", api.OpLess: "less", api.OpEqual: "equal", api.OpAnd: "and", api.OpOr: "or"} {
		checkText(t, append(a[:2:2], api.Node{Op: op}), word+"(yes, yes)")
	}
	checkText(t, append(a[:3:3], api.Node{Op: api.OpIf}), "if(yes, yes, yes)")
	checkText(t, append(a[:1:1], api.Node{Op: api.OpNot}), "not(yes)")
	for op, word := range map[int]string{api.OpDown: "down", api.OpUp: "up", api.OpNear: "near"} {
		checkText(t, append(a[:1:1], api.Node{Op: op, Num: num("5/2")}), word+"[5/2](yes)")
	}
	checkText(t, append(a[:1:1], api.Node{Op: api.OpRate, Name: "x"}), "rate.x(yes)")
}

// TestP7_3Numbers checks the longest numbers that fit, and the shortest ones that do not.
func TestP7_3Numbers(t *testing.T) {
	for _, w := range rows {
		if w.has != amount && w.has != positive {
			continue
		}
		for _, a := range longest() {
			if w.has == amount || !a.Neg {
				s := joined(w, api.Node{Op: w.op, Num: a}, slices.Repeat([]sample{joined(rows[3], yes(1)[0])}, w.operands)...)
				checkText(t, s.nodes, s.text)
			}
		}
		for _, a := range append(long(), power(5000, 1)) {
			text := strings.NewReplacer("N", ratio.Text(a), "A", "yes").Replace(w.text)
			checkNoText(t, text)
		}
	}
	for _, s := range []string{
		"01", "+1", "-0", "00", "1/1", "0/1", "0/2", "2/4", "1/0", "1/-2", "--1", "- 1", "1/", "/2", "1/2/3", "1 /2", "1/ 2", "1.5", "1e3", "0x1", "1_0", "-", "1-", "１", "٣",
		"$", "$01", "$+1", "$-0", "$2/4", "-$1", "$$1", "$ 1", "1$", "d", "-d", "01d", "-0d", "2/4d", "1dd", "1 d", "d1", "$1d",
	} {
		checkNoText(t, s)
	}
}

func TestP7_3Names(t *testing.T) {
	for _, w := range rows {
		if w.has != name {
			continue
		}
		text := strings.Replace(w.text, "A)", "1)", 1)
		for _, s := range append(noNames(), "", "(", ")", ",", "a.b", "a(", "a)", "a,", "[a]") {
			checkNoText(t, strings.Replace(text, "NAME", s, 1))
		}
		for _, s := range names() {
			if e, errno := expr.Parse(strings.Replace(text, "NAME", s, 1)); errno != api.OK || e[len(e)-1] != (api.Node{Op: w.op, Name: s}) {
				t.Errorf("Parse of %s with the name %q: %v, %d", w.text, s, e, errno)
			}
		}
	}
}

func TestP7_3NoTexts(t *testing.T) {
	for _, s := range []string{
		"", " ", "\n", "\x00", "(", ")", ",", "()", "( )", "(1)", "1)", "1,", "1, 2", "1 2", " 1", "1 ", "1\n", "((1))", "(1, 2)",
		"Yes", "NO", "true", "maybe", "yes.a", "yes()", "yes(1)", "no ", " no", "yesno", "fact", "own", "rate", "fact.", "own.", "fact.a.b", "fact .a", "fact. a", "factory.a", "Own.a", "fact.a()", "own.a(1)", "1(2)", "$1(2)",
		"add", "add()", "add(1)", "add(1, )", "add(, 1)", "add(1, 2", "add(1, 2))", "add(1, 2, 3)", "add(1, 2, )", "add(1,2)", "add(1 , 2)", "add(1,  2)", "add( 1, 2)", "add(1, 2 )", "add (1, 2)", "add(1, 2) ", "add((1), 2)", "add.a(1, 2)", "add[1](1, 2)", "ADD(1, 2)", "plus(1, 2)", "add(1; 2)",
		"if(yes, 1)", "if(yes, 1, 2, 3)", "if(yes)", "if", "not", "not()", "not(yes, no)", "not yes", "not(yes", "less(1)", "equal(1, 2, 3)", "and(yes)", "or()",
		"down(1)", "down[](1)", "down[1]", "down[1]()", "down[1](1, 2)", "down[0](1)", "down[-1](1)", "down[2/4](1)", "down[1(1)", "down1](1)", "down[[1]](1)", "down[$1](1)", "down[1d](1)", "down[1] (1)", "down [1](1)", "up[a](1)", "near[yes](1)", "round[1](1)",
		"rate(1)", "rate.(1)", "rate.a", "rate.a()", "rate.a(1, 2)", "rate.a.b(1)", "rate[1](1)", "rate.A(1)",
	} {
		checkNoText(t, s)
	}
}

// TestP7_3Sequences checks all short sequences of pieces of texts against the texts of all expressions made of them.
func TestP7_3Sequences(t *testing.T) {
	texts := map[string]bool{}
	of := [][]string{nil, {"yes", "no"}} // the texts of expressions with so many nodes
	for size := 2; size <= 4; size++ {
		var l []string
		for _, a := range of[size-1] {
			l = append(l, "not("+a+")")
		}
		for left := 1; left <= size-2; left++ {
			for _, a := range of[left] {
				for _, b := range of[size-1-left] {
					l = append(l, "or("+a+", "+b+")")
				}
			}
		}
		of = append(of, l)
	}
	for _, text := range slices.Concat(of...) {
		texts[text] = true
	}
	found := 0
	sequences := []string{""}
	for range 7 {
		var longer []string
		for _, s := range sequences {
			for _, piece := range []string{"yes", "no", "not(", "or(", ", ", ")"} {
				longer = append(longer, s+piece)
			}
		}
		sequences = longer
		for _, s := range sequences {
			if e, errno := expr.Parse(s); (errno == api.OK) != texts[s] || (errno == api.OK) != (len(e) > 0) {
				t.Errorf("Parse of %q: %v, %d", s, e, errno)
			} else if errno == api.OK {
				found++
			}
		}
	}
	if found != len(texts) {
		t.Errorf("%d sequences are texts, not %d", found, len(texts))
	}
}

// TestP7_3Changed checks that a text that is changed in one place is not accepted, unless it is that of another expression.
func TestP7_3Changed(t *testing.T) {
	r := rand.New(rand.NewPCG(7, 33))
	for _, s := range someSamples(4, 600) {
		for range 30 {
			at := r.IntN(len(s.text))
			const bytes = "a1(), .-/$[]d0_A\n\xff"
			piece := bytes[r.IntN(len(bytes)):][:1]
			changed := s.text[:at] + []string{"", piece, piece + s.text[at:at+1]}[r.IntN(3)] + s.text[at+1:]
			e, errno := expr.Parse(changed)
			if text, _ := expr.Text(e); errno == api.OK && text != changed || errno != api.OK && (errno != api.ErrForm || e != nil) {
				t.Errorf("Parse of %q: %v, %d", changed, e, errno)
			}
		}
	}
}

// TestP7_3Many checks texts of as many nodes as are permitted, and of more.
func TestP7_3Many(t *testing.T) {
	deep := func(nots int) string { return strings.Repeat("not(", nots) + "yes" + strings.Repeat(")", nots) }
	wide := func(ands int) string { return strings.Repeat("and(yes, ", ands) + "yes" + strings.Repeat(")", ands) }
	left := func(ands int) string { return strings.Repeat("and(", ands) + "yes" + strings.Repeat(", yes)", ands) }
	for text, nodes := range map[string]int{deep(59): 60, wide(29): 59, left(29): 59, "not(" + wide(29) + ")": 60, "not(" + left(29) + ")": 60} {
		e, errno := expr.Parse(text)
		if len(e) != nodes || errno != api.OK {
			t.Errorf("Parse of %s: %d nodes, %d", text, len(e), errno)
		}
		checkText(t, e, text)
	}
	for _, text := range []string{deep(60), wide(30), left(30), deep(1000), wide(1000), left(1000), deep(300000), wide(300000), left(300000)} {
		checkNoText(t, text)
	}
}

// TestP7_3Long checks long texts of which none is that of an expression.
func TestP7_3Long(t *testing.T) {
	for _, piece := range []string{"1", "a", "0", "-", "(", ")", ", ", "not(", "yes", "1/", "$", "d", "own.", "down[", "add(1, ", "\xff", "ä"} {
		many := strings.Repeat(piece, 2000000/len(piece))
		for _, text := range []string{many, "add(" + many, "not(" + many + ")", "own." + many, "$" + many, "1/" + many, many + "d", "near[" + many + "](1)", "add(1, 2)" + many} {
			checkNoText(t, text)
		}
	}
}
