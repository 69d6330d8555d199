package statute_test

import (
	"fmt"
	"reflect"
	"slices"
	"strings"
	"testing"

	"tithing/api"
	"tithing/expr"
	"tithing/ratio"
	"tithing/statute"
)

// example is the text of the law L of the chapter's examples.
const example = `fact income m1d0
fact single truth
schedule scale m1d0: 0 1/10, 1000 1/5
provision aid m1d0 step 10 cap 500: if(fact.single, $100, div(own.tax, 4))
provision tax m1d0 charge: rate.scale(sub(fact.income, own.aid))
`

var (
	truth = api.Type{Truth: true}
	cash  = number(1, 0)
	days  = number(0, 1)
	plain = number(0, 0)
)

// number returns the number type with these exponents.
func number(money, days int) api.Type {
	return api.Type{Unit: api.Unit{Money: money, Days: days}}
}

// allTypes returns all types: truths, and the numbers of all units.
func allTypes() []api.Type {
	l := []api.Type{truth}
	for money := -3; money <= 3; money++ {
		for days := -3; days <= 3; days++ {
			l = append(l, number(money, days))
		}
	}
	return l
}

// noTypes returns values that are no types, by a little or by much.
func noTypes() []api.Type {
	return []api.Type{
		number(4, 0), number(-4, 0), number(0, 4), number(0, -4), number(1<<62, 0), number(0, -1<<63), number(-1<<63, 1<<63-1),
		{Truth: true, Unit: api.Unit{Money: 1}}, {Truth: true, Unit: api.Unit{Days: -1}}, {Truth: true, Unit: api.Unit{Money: 4}},
	}
}

// num returns the amount of a text in lowest terms.
func num(s string) api.Rat {
	a, ok := ratio.Parse(s)
	if !ok {
		panic("no amount in lowest terms: " + s)
	}
	return a
}

// parsed returns the expression of a text.
func parsed(s string) []api.Node {
	e, errno := expr.Parse(s)
	if errno != api.OK {
		panic("no expression: " + s)
	}
	return e
}

// lawOf returns the right law of a text.
func lawOf(s string) api.Law {
	l, _, errno := statute.Parse(s)
	if errno != api.OK {
		panic("no text of a law: " + s)
	}
	return l
}

// schedule returns a schedule with brackets whose From and Rate take turns.
func schedule(name string, unit api.Unit, numbers ...string) api.Schedule {
	s := api.Schedule{Name: name, Unit: unit}
	for place := 0; place < len(numbers); place += 2 {
		s.Brackets = append(s.Brackets, api.Bracket{From: num(numbers[place]), Rate: num(numbers[place+1])})
	}
	return s
}

// exampleLaw returns the law L, not from its text.
func exampleLaw() api.Law {
	return api.Law{
		Facts:     []api.Decl{{Name: "income", Type: cash}, {Name: "single", Type: truth}},
		Schedules: []api.Schedule{schedule("scale", cash.Unit, "0", "1/10", "1000", "1/5")},
		Provisions: []api.Provision{
			{Name: "aid", Type: cash, Body: parsed("if(fact.single, $100, div(own.tax, 4))"), Step: num("10"), Cap: num("500")},
			{Name: "tax", Type: cash, Body: parsed("rate.scale(sub(fact.income, own.aid))"), Charge: true},
		},
	}
}

// copyOf returns an equal law that shares no memory with the one that is given.
func copyOf(l api.Law) api.Law {
	kept := api.Law{Facts: slices.Clone(l.Facts), Schedules: slices.Clone(l.Schedules), Provisions: slices.Clone(l.Provisions)}
	for place := range kept.Schedules {
		kept.Schedules[place].Brackets = slices.Clone(kept.Schedules[place].Brackets)
	}
	for place := range kept.Provisions {
		kept.Provisions[place].Body = slices.Clone(kept.Provisions[place].Body)
	}
	return kept
}

// changed returns the law L with a change.
func changed(change func(l *api.Law)) api.Law {
	l := exampleLaw()
	change(&l)
	return l
}

// shown returns a law, or the beginning of a long one, for a message.
func shown(l api.Law) string { return fmt.Sprintf("%.600s", fmt.Sprint(l)) }

// checkError checks the error of a law, that Text has the same one, and that both leave the law as it is.
func checkError(t *testing.T, l api.Law, want api.Errno) {
	t.Helper()
	kept := copyOf(l)
	if got := statute.Check(l); got != want {
		t.Errorf("Check of %s: %d, not %d", shown(l), got, want)
	}
	text, errno := statute.Text(l)
	if errno != want || errno != api.OK && text != "" {
		t.Errorf("Text of %s: %.300q, %d, not %d", shown(l), text, errno, want)
	}
	if !reflect.DeepEqual(l, kept) {
		t.Errorf("Check or Text changes %s", shown(kept))
	}
}

// checkText checks that a right law has a text, and the text this law.
func checkText(t *testing.T, l api.Law, want string) {
	t.Helper()
	checkError(t, l, api.OK)
	if got, _ := statute.Text(l); got != want {
		t.Errorf("Text: %.600q, not %.600q", got, want)
	}
	if got, line, errno := statute.Parse(want); !statute.Same(got, l) || line != 0 || errno != api.OK {
		t.Errorf("Parse of %.600q: %s, %d, %d", want, shown(got), line, errno)
	}
}

// checkNoText checks what Parse returns for what is not the text of a right law.
func checkNoText(t *testing.T, s string, line int, errno api.Errno) {
	t.Helper()
	got, gotLine, gotErrno := statute.Parse(s)
	if gotLine != line || gotErrno != errno || got.Facts != nil || got.Schedules != nil || got.Provisions != nil {
		t.Errorf("Parse of %.600q: %s, %d, %d, not %d, %d", s, shown(got), gotLine, gotErrno, line, errno)
	}
}

func TestExamples(t *testing.T) {
	checkText(t, exampleLaw(), example)
	checkError(t, api.Law{}, api.OK)
	checkError(t, changed(func(l *api.Law) { l.Facts[0].Name = "aid" }), api.ErrTwice)
	checkError(t, changed(func(l *api.Law) { l.Provisions = l.Provisions[1:] }), api.ErrName)
	checkError(t, changed(func(l *api.Law) { l.Provisions[0].Cap = num("505") }), api.ErrArg)
	checkError(t, changed(func(l *api.Law) { l.Provisions[0].Step = num("0") }), api.ErrArg)
	checkError(t, changed(func(l *api.Law) { slices.Reverse(l.Provisions) }), api.ErrForm)
	checkError(t, changed(func(l *api.Law) { l.Provisions[1].Type = plain }), api.ErrType)
	lines := strings.SplitAfter(example, "\n")
	checkNoText(t, strings.TrimSuffix(example, "\n"), 5, api.ErrForm)
	checkNoText(t, lines[4], 0, api.ErrName)
	checkNoText(t, lines[1]+lines[0], 0, api.ErrForm)
}

func TestP11_1Name(t *testing.T) {
	for _, s := range []string{"a", "z", "income", "a0", "a9", "a_", "a__", "z_9", "fact", "own", "truth", "charge", "m1d0", strings.Repeat("a", 20), "a" + strings.Repeat("_", 19)} {
		if !statute.Name(s) {
			t.Errorf("Name of %q: false", s)
		}
	}
	for _, s := range []string{"", "0", "9a", "_", "_a", "A", "aA", "aB", "a-b", "a.b", "a b", " a", "a ", "a\n", "a:", "a,", "a\x00", "a\x80", "\xffa", "é", "aé", "a{", "`", strings.Repeat("a", 21), strings.Repeat("a", 100000)} {
		if statute.Name(s) {
			t.Errorf("Name of %.100q: true", s)
		}
	}
}

// TestP11_1NameBytes goes through all bytes, at the beginning of a name and after it.
func TestP11_1NameBytes(t *testing.T) {
	for b := range 256 {
		isLetter := b >= 'a' && b <= 'z'
		isOther := b >= '0' && b <= '9' || b == '_'
		first := string([]byte{byte(b)})
		if statute.Name(first) != isLetter || statute.Name(first+"0") != isLetter {
			t.Errorf("Name of the byte %d: %t", b, !isLetter)
		}
		if statute.Name("a"+first) != (isLetter || isOther) || statute.Name("a"+first+"b") != (isLetter || isOther) {
			t.Errorf("Name with the byte %d after the first one: %t", b, !isLetter && !isOther)
		}
	}
}

func TestP11_1Sigs(t *testing.T) {
	l := exampleLaw()
	l.Provisions[1].Type = truth // whatever they are
	l.Schedules[0].Unit = api.Unit{Money: 9, Days: -9}
	l.Facts[0].Name = "?"
	want := []api.Sig{
		{Op: api.OpFact, Name: "?", Type: cash}, {Op: api.OpFact, Name: "single", Type: truth},
		{Op: api.OpOwn, Name: "aid", Type: cash}, {Op: api.OpOwn, Name: "tax", Type: truth},
		{Op: api.OpPrior, Name: "aid", Type: cash}, {Op: api.OpPrior, Name: "tax", Type: truth},
		{Op: api.OpSpouse, Name: "aid", Type: cash}, {Op: api.OpSpouse, Name: "tax", Type: truth},
		{Op: api.OpRate, Name: "scale", Type: number(9, -9)},
	}
	kept := copyOf(l)
	got := statute.Sigs(l)
	if !slices.Equal(got, want) || !reflect.DeepEqual(l, kept) {
		t.Errorf("Sigs: %v, not %v", got, want)
	}
	for place := range got {
		got[place] = api.Sig{}
	}
	if !slices.Equal(statute.Sigs(l), want) {
		t.Error("the sigs share memory with the law")
	}
	if got := statute.Sigs(api.Law{}); len(got) != 0 {
		t.Errorf("Sigs of no law: %v", got)
	}
}

// TestP11_1SigsMany checks laws with more things than are permitted, and with equal ones.
func TestP11_1SigsMany(t *testing.T) {
	for _, count := range []int{1, 2, 40, 1000} {
		l := api.Law{
			Facts:      slices.Repeat([]api.Decl{{Name: "a", Type: days}}, count),
			Schedules:  slices.Repeat([]api.Schedule{{}, {Name: "s", Unit: cash.Unit}}, count),
			Provisions: slices.Repeat([]api.Provision{{Name: "p", Type: truth}}, count),
		}
		var want []api.Sig
		for _, sig := range []api.Sig{{Op: api.OpFact, Name: "a", Type: days}, {Op: api.OpOwn, Name: "p", Type: truth}, {Op: api.OpPrior, Name: "p", Type: truth}, {Op: api.OpSpouse, Name: "p", Type: truth}} {
			want = append(want, slices.Repeat([]api.Sig{sig}, count)...)
		}
		want = append(want, slices.Repeat([]api.Sig{{Op: api.OpRate}, {Op: api.OpRate, Name: "s", Type: cash}}, count)...)
		if got := statute.Sigs(l); !slices.Equal(got, want) {
			t.Errorf("Sigs of %d things of each kind: %.300v", count, got)
		}
	}
}

func TestP11_1Find(t *testing.T) {
	l := exampleLaw()
	l.Provisions = append(l.Provisions, api.Provision{Name: "aid"}, api.Provision{Name: "?"}, api.Provision{Name: "b"}, api.Provision{Name: "?"})
	for name, want := range map[string]int{"aid": 0, "tax": 1, "?": 3, "b": 4} {
		if at, ok := statute.Find(l, name); at != want || !ok {
			t.Errorf("Find of %q: %d, %t", name, at, ok)
		}
	}
	for _, name := range []string{"", "income", "single", "scale", "ai", "aida", "TAX", strings.Repeat("tax", 1000)} {
		if at, ok := statute.Find(l, name); at != 0 || ok {
			t.Errorf("Find of %.30q: %d, %t", name, at, ok)
		}
	}
	if at, ok := statute.Find(api.Law{}, "aid"); at != 0 || ok {
		t.Errorf("Find in no law: %d, %t", at, ok)
	}
	if at, ok := statute.Find(api.Law{Provisions: []api.Provision{{Name: "a"}, {}}}, ""); at != 1 || !ok {
		t.Errorf("Find of a provision without a name: %d, %t", at, ok)
	}
}

// variants returns laws that all differ: L with one change, or with two; not all of them are right.
func variants() []api.Law {
	return []api.Law{
		{},
		exampleLaw(),
		changed(func(l *api.Law) { l.Facts = nil }),
		changed(func(l *api.Law) { l.Facts = l.Facts[:1] }),
		changed(func(l *api.Law) { l.Facts = l.Facts[1:] }),
		changed(func(l *api.Law) { slices.Reverse(l.Facts) }),
		changed(func(l *api.Law) { l.Facts[1].Name = "singl" }),
		changed(func(l *api.Law) { l.Facts[1].Type.Truth = false }),
		changed(func(l *api.Law) { l.Facts[1].Type.Unit.Days = 1 }),
		changed(func(l *api.Law) { l.Facts[1].Type.Unit.Money = 1 }),
		changed(func(l *api.Law) { l.Schedules = nil }),
		changed(func(l *api.Law) { l.Schedules = append(l.Schedules, l.Schedules[0]) }),
		changed(func(l *api.Law) { l.Schedules = append(l.Schedules, api.Schedule{}) }),
		changed(func(l *api.Law) { l.Schedules[0].Name = "" }),
		changed(func(l *api.Law) { l.Schedules[0].Unit.Days = 1 }),
		changed(func(l *api.Law) { l.Schedules[0].Brackets = nil }),
		changed(func(l *api.Law) { l.Schedules[0].Brackets = l.Schedules[0].Brackets[:1] }),
		changed(func(l *api.Law) { slices.Reverse(l.Schedules[0].Brackets) }),
		changed(func(l *api.Law) { l.Schedules[0].Brackets[1].From = num("-1000") }),
		changed(func(l *api.Law) { l.Schedules[0].Brackets[1].Rate = api.Rat{} }),
		changed(func(l *api.Law) { l.Provisions = nil }),
		changed(func(l *api.Law) { l.Provisions = l.Provisions[:1] }),
		changed(func(l *api.Law) { l.Provisions = l.Provisions[1:] }),
		changed(func(l *api.Law) { slices.Reverse(l.Provisions) }),
		changed(func(l *api.Law) { l.Provisions[0].Name = "aids" }),
		changed(func(l *api.Law) { l.Provisions[0].Type = plain }),
		changed(func(l *api.Law) { l.Provisions[0].Charge = true }),
		changed(func(l *api.Law) { l.Provisions[0].Step = num("1") }),
		changed(func(l *api.Law) { l.Provisions[0].Step.Neg = true }),
		changed(func(l *api.Law) { l.Provisions[0].Cap = num("500/3") }),
		changed(func(l *api.Law) { l.Provisions[0].Cap = api.Rat{} }),
		changed(func(l *api.Law) { l.Provisions[0].Body = nil }),
		changed(func(l *api.Law) { l.Provisions[0].Body[1].Num = num("10") }),
		changed(func(l *api.Law) { l.Provisions[0].Body[1].Op = api.OpNumber }),
		changed(func(l *api.Law) { l.Provisions[0].Body[0].Name = "s" }),
		changed(func(l *api.Law) { l.Provisions[0].Body = append(l.Provisions[0].Body, api.Node{}) }),
		changed(func(l *api.Law) { l.Provisions[1].Charge = false }),
		changed(func(l *api.Law) { l.Provisions[1].Step = num("0") }),
		changed(func(l *api.Law) { l.Provisions[1].Charge, l.Provisions[1].Name = false, "" }),
		changed(func(l *api.Law) { l.Provisions[0], l.Provisions[1].Charge = l.Provisions[1], false }),
	}
}

func TestP11_3Same(t *testing.T) {
	l := variants()
	for place, a := range l {
		for other, b := range l {
			a, b := copyOf(a), copyOf(b)
			if got := statute.Same(a, b); got != (place == other) {
				t.Errorf("Same of %v and %v: %t", a, b, got)
			}
			if !reflect.DeepEqual(a, copyOf(l[place])) || !reflect.DeepEqual(b, copyOf(l[other])) {
				t.Errorf("Same changes %v or %v", a, b)
			}
		}
	}
}

// TestP11_3Empty checks that nil and empty slices are the same.
func TestP11_3Empty(t *testing.T) {
	empty := api.Law{Facts: []api.Decl{}, Schedules: []api.Schedule{}, Provisions: []api.Provision{}}
	if !statute.Same(api.Law{}, empty) || !statute.Same(empty, api.Law{}) {
		t.Error("Same of no law and of one with empty slices: false")
	}
	a := api.Law{Schedules: []api.Schedule{{Name: "s"}}, Provisions: []api.Provision{{Name: "p"}}}
	b := api.Law{Schedules: []api.Schedule{{Name: "s", Brackets: []api.Bracket{}}}, Provisions: []api.Provision{{Name: "p", Body: []api.Node{}}}}
	if !statute.Same(a, b) || !statute.Same(b, a) {
		t.Error("Same of parts without elements: false")
	}
	checkError(t, empty, api.OK)
	checkText(t, empty, "")
}
