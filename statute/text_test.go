package statute_test

import (
	"fmt"
	"math/big"
	"math/rand/v2"
	"regexp"
	"slices"
	"strings"
	"testing"

	"tithing/api"
	"tithing/expr"
	"tithing/ratio"
	"tithing/statute"
)

// typeTextBy returns the text of a type.
func typeTextBy(is api.Type) string {
	if is.Truth {
		return "truth"
	}
	return fmt.Sprintf("m%dd%d", is.Unit.Money, is.Unit.Days)
}

// textBy returns the text of a right law, as the chapter says it.
func textBy(l api.Law) string {
	var lines []string
	for _, f := range l.Facts {
		lines = append(lines, fmt.Sprintf("fact %s %s\n", f.Name, typeTextBy(f.Type)))
	}
	for _, s := range l.Schedules {
		var brackets []string
		for _, b := range s.Brackets {
			brackets = append(brackets, valueOf(b.From).RatString()+" "+valueOf(b.Rate).RatString())
		}
		lines = append(lines, fmt.Sprintf("schedule %s m%dd%d: %s\n", s.Name, s.Unit.Money, s.Unit.Days, strings.Join(brackets, ", ")))
	}
	for _, p := range l.Provisions {
		rest := ""
		if p.Charge {
			rest = " charge"
		}
		if p.Step != (api.Rat{}) {
			rest += fmt.Sprintf(" step %s cap %s", valueOf(p.Step).RatString(), valueOf(p.Cap).RatString())
		}
		body, _ := expr.Text(p.Body)
		lines = append(lines, fmt.Sprintf("provision %s %s%s: %s\n", p.Name, typeTextBy(p.Type), rest, body))
	}
	return strings.Join(lines, "")
}

// The forms of the lines of things: names and types are right, numbers and expressions may not be.
var (
	factLine      = regexp.MustCompile(`\Afact (NAME) (TYPE)\n\z`)
	scheduleLine  = regexp.MustCompile(`\Aschedule (NAME) (UNIT): (NUMBER NUMBER(?:, NUMBER NUMBER)*)\n\z`)
	provisionLine = regexp.MustCompile(`\Aprovision (NAME) (TYPE)( charge)?(?: step (NUMBER) cap (NUMBER))?: ([^\n]*)\n\z`)
)

func init() {
	for _, is := range allTypes() {
		typesByText[typeTextBy(is)] = is
	}
	forms := strings.NewReplacer("NAME", "[a-z][a-z0-9_]{0,19}", "UNIT", "m(?:-[123]|[0123])d(?:-[123]|[0123])", "TYPE", "truth|m(?:-[123]|[0123])d(?:-[123]|[0123])", "NUMBER", "-?[0-9]+(?:/[0-9]+)?")
	for _, line := range []**regexp.Regexp{&factLine, &scheduleLine, &provisionLine} {
		*line = regexp.MustCompile(forms.Replace((*line).String()))
	}
}

// typesByText are the types by their texts.
var typesByText = map[string]api.Type{}

// numberBy returns the number of a text, and whether this is its text in lowest terms.
func numberBy(s string) (api.Rat, bool) {
	v, ok := new(big.Rat).SetString(s)
	if !ok || v.RatString() != s {
		return api.Rat{}, false
	}
	n, ok := ratio.Make(v.Sign() < 0, api.Nat(v.Num().Bytes()), api.Nat(v.Denom().Bytes()))
	return n, ok
}

// addBy adds the thing of a line to a law, and reports whether it is that of one.
func addBy(l *api.Law, line string) bool {
	if found := factLine.FindStringSubmatch(line); found != nil {
		l.Facts = append(l.Facts, api.Decl{Name: found[1], Type: typesByText[found[2]]})
		return true
	}
	if found := scheduleLine.FindStringSubmatch(line); found != nil {
		s := api.Schedule{Name: found[1], Unit: typesByText[found[2]].Unit}
		for _, text := range strings.Split(found[3], ", ") {
			from, rate, _ := strings.Cut(text, " ")
			a, okA := numberBy(from)
			b, okB := numberBy(rate)
			if !okA || !okB {
				return false
			}
			s.Brackets = append(s.Brackets, api.Bracket{From: a, Rate: b})
		}
		l.Schedules = append(l.Schedules, s)
		return true
	}
	found := provisionLine.FindStringSubmatch(line)
	if found == nil {
		return false
	}
	p := api.Provision{Name: found[1], Type: typesByText[found[2]], Charge: found[3] != ""}
	if found[4] != "" {
		var okStep, okCap bool
		p.Step, okStep = numberBy(found[4])
		p.Cap, okCap = numberBy(found[5])
		if !okStep || !okCap {
			return false
		}
	}
	var errno api.Errno
	p.Body, errno = expr.Parse(found[6])
	l.Provisions = append(l.Provisions, p)
	return errno == api.OK
}

// parseBy returns what Parse should return.
func parseBy(s string) (api.Law, int, api.Errno) {
	var l api.Law
	lines := strings.Split(s, "\n")
	last := len(lines) - 1
	for place, line := range lines[:last] {
		if !addBy(&l, line+"\n") {
			return api.Law{}, place + 1, api.ErrForm
		}
	}
	if lines[last] != "" {
		return api.Law{}, last + 1, api.ErrForm
	}
	if errno := errorBy(l); errno != api.OK {
		return api.Law{}, 0, errno
	}
	if textBy(l) != s {
		return api.Law{}, 0, api.ErrForm
	}
	return l, 0, api.OK
}

// checkParse checks Parse with its definition, and returns the error.
func checkParse(t *testing.T, s string) api.Errno {
	t.Helper()
	want, line, errno := parseBy(s)
	if errno == api.OK {
		checkText(t, want, s)
	} else {
		checkNoText(t, s, line, errno)
	}
	return errno
}

func TestP11_4Text(t *testing.T) {
	r := rand.New(rand.NewPCG(11, 4))
	for range 3000 {
		l := someLaw(r)
		checkText(t, l, textBy(l))
	}
	full := fullLaw(20, 8, 30)
	checkText(t, full, textBy(full))
}

func TestP11_4Words(t *testing.T) {
	for _, is := range allTypes() {
		l := api.Law{Facts: []api.Decl{{Name: "f", Type: is}}, Provisions: []api.Provision{{Name: "p", Type: is, Body: parsed("prior.p")}}}
		checkText(t, l, "fact f "+typeTextBy(is)+"\nprovision p "+typeTextBy(is)+": prior.p\n")
		if !is.Truth {
			l = api.Law{Schedules: []api.Schedule{schedule("s", is.Unit, "0", "-1/2", "1/3", "7", "2", "0")}}
			checkText(t, l, "schedule s "+typeTextBy(is)+": 0 -1/2, 1/3 7, 2 0\n")
		}
	}
	checkText(t, api.Law{Facts: []api.Decl{{Name: "f", Type: number(-3, 2)}, {Name: "g"}}}, "fact f m-3d2\nfact g m0d0\n")
	p := api.Provision{Name: "charge", Type: cash, Body: parsed("$-1/2")}
	checkText(t, api.Law{Provisions: []api.Provision{p}}, "provision charge m1d0: $-1/2\n")
	p.Charge = true
	checkText(t, api.Law{Provisions: []api.Provision{p}}, "provision charge m1d0 charge: $-1/2\n")
	p.Step, p.Cap = num("1/3"), num("5")
	checkText(t, api.Law{Provisions: []api.Provision{p}}, "provision charge m1d0 charge step 1/3 cap 5: $-1/2\n")
	p.Charge = false
	checkText(t, api.Law{Provisions: []api.Provision{p}}, "provision charge m1d0 step 1/3 cap 5: $-1/2\n")
}

func TestP11_5Lines(t *testing.T) {
	long := power(2000)
	for _, row := range []struct {
		text  string
		line  int
		errno api.Errno
	}{
		{"\n", 1, api.ErrForm}, {" ", 1, api.ErrForm}, {"x", 1, api.ErrForm}, {"\n" + example, 1, api.ErrForm}, {example + "\n", 6, api.ErrForm}, {example + " ", 6, api.ErrForm}, {example + "\x00", 6, api.ErrForm}, {example + "fact z truth", 6, api.ErrForm}, {strings.ReplaceAll(example, "\n", "\r\n"), 1, api.ErrForm}, {strings.ReplaceAll(example, "\n", ""), 1, api.ErrForm},
		{"fact a truth", 1, api.ErrForm}, {"fact a truth\n\n", 2, api.ErrForm}, {"fact a truth\nx\ny\n", 2, api.ErrForm}, {"fact a truth\nfact a truth\nfact 1 truth\n", 3, api.ErrForm},
		{"fact\n", 1, api.ErrForm}, {"fact \n", 1, api.ErrForm}, {"fact a\n", 1, api.ErrForm}, {"fact a \n", 1, api.ErrForm}, {"fact truth\n", 1, api.ErrForm}, {"fact  truth\n", 1, api.ErrForm}, {"fact  a truth\n", 1, api.ErrForm}, {"fact a  truth\n", 1, api.ErrForm}, {" fact a truth\n", 1, api.ErrForm}, {"fact a truth truth\n", 1, api.ErrForm}, {"fact a\ttruth\n", 1, api.ErrForm}, {"facta truth\n", 1, api.ErrForm}, {"Fact a truth\n", 1, api.ErrForm}, {"fact: a truth\n", 1, api.ErrForm},
		{"fact a Truth\n", 1, api.ErrForm}, {"fact a truths\n", 1, api.ErrForm}, {"fact a trut\n", 1, api.ErrForm}, {"fact a m\n", 1, api.ErrForm}, {"fact a md\n", 1, api.ErrForm}, {"fact a m1\n", 1, api.ErrForm}, {"fact a d1\n", 1, api.ErrForm}, {"fact a 1d1\n", 1, api.ErrForm}, {"fact a m1d\n", 1, api.ErrForm}, {"fact a md1\n", 1, api.ErrForm}, {"fact a m+1d0\n", 1, api.ErrForm}, {"fact a m-0d0\n", 1, api.ErrForm}, {"fact a m0d-0\n", 1, api.ErrForm}, {"fact a m0d00\n", 1, api.ErrForm}, {"fact a m0d4\n", 1, api.ErrForm}, {"fact a m0d-4\n", 1, api.ErrForm}, {"fact a m-4d0\n", 1, api.ErrForm}, {"fact a mm1d0\n", 1, api.ErrForm}, {"fact a m1d0d0\n", 1, api.ErrForm}, {"fact a m0x1d0\n", 1, api.ErrForm}, {"fact a m1_0d0\n", 1, api.ErrForm}, {"fact a m18446744073709551617d0\n", 1, api.ErrForm}, {"fact a m" + long + "d0\n", 1, api.ErrForm}, {"fact a m4294967297d0\n", 1, api.ErrForm}, {"fact a d0m0\n", 1, api.ErrForm},
		{"fact a1234567890123456789 truth\n", 0, api.OK}, {"fact a12345678901234567890 truth\n", 1, api.ErrForm}, {"fact _a truth\n", 1, api.ErrForm}, {"fact é truth\n", 1, api.ErrForm},
		{"schedule\n", 1, api.ErrForm}, {"schedule s m0d0:\n", 1, api.ErrForm}, {"schedule s m0d0: \n", 1, api.ErrForm}, {"schedule s m0d0: 0\n", 1, api.ErrForm}, {"schedule s m0d0: 0 \n", 1, api.ErrForm}, {"schedule s m0d0: 0 1,\n", 1, api.ErrForm}, {"schedule s m0d0: 0 1, \n", 1, api.ErrForm}, {"schedule s m0d0: 0 1, 2\n", 1, api.ErrForm}, {"schedule s m0d0: 0 1 2\n", 1, api.ErrForm}, {"schedule s m0d0: 0 1 2 3\n", 1, api.ErrForm}, {"schedule s m0d0: 0 1,2 3\n", 1, api.ErrForm}, {"schedule s m0d0: 0, 1\n", 1, api.ErrForm}, {"schedule s m0d0:0 1\n", 1, api.ErrForm}, {"schedule s m0d0 : 0 1\n", 1, api.ErrForm}, {"schedule s m0d0: 0  1\n", 1, api.ErrForm}, {"schedule s m0d0:  0 1\n", 1, api.ErrForm}, {"schedule s m0d0: 0 1 \n", 1, api.ErrForm}, {"schedule s m0d0: 0 1: 2 3\n", 1, api.ErrForm}, {"schedule s m0d0 charge: 0 1\n", 1, api.ErrForm}, {"schedule s: 0 1\n", 1, api.ErrForm}, {"schedule m0d0: 0 1\n", 1, api.ErrForm},
		{"schedule s m0d0: 0 01\n", 1, api.ErrForm}, {"schedule s m0d0: 0 +1\n", 1, api.ErrForm}, {"schedule s m0d0: -0 1\n", 1, api.ErrForm}, {"schedule s m0d0: 0 1/1\n", 1, api.ErrForm}, {"schedule s m0d0: 0 1/0\n", 1, api.ErrForm}, {"schedule s m0d0: 0 1.5\n", 1, api.ErrForm}, {"schedule s m0d0: 0 $1\n", 1, api.ErrForm}, {"schedule s m0d0: 0 1/-2\n", 1, api.ErrForm}, {"schedule s m0d0: 0 1/2/3\n", 1, api.ErrForm}, {"schedule s m0d0: 0 x\n", 1, api.ErrForm}, {"schedule s m0d0: 0 2/" + long + "\n", 1, api.ErrForm},
		{"schedule s m0d0: 0 -7/3\n", 0, api.OK}, {"schedule s m0d0: 1 1\n", 0, api.ErrForm}, {"schedule s m0d0: 0 1, 0 1\n", 0, api.ErrForm}, {"schedule s m0d0: 0 1, -1 1\n", 0, api.ErrForm}, {"schedule s m0d0: 0 " + long + "\n", 0, api.ErrRange}, {"schedule s m0d0: 0 1/" + long + "\n", 0, api.ErrRange},
		{"schedule s m0d0: 0 0" + strings.Repeat(", 1 1", 8) + "\n", 0, api.ErrMany}, {"schedule s m0d0: 0 0" + strings.Repeat(", 1 1", 100) + "\n", 0, api.ErrMany}, {"schedule s m0d0: 0 0, 1 0, 2 0, 3 0, 4 0, 5 0, 6 0, 7 0\n", 0, api.OK},
		{"provision\n", 1, api.ErrForm}, {"provision p\n", 1, api.ErrForm}, {"provision p m0d0\n", 1, api.ErrForm}, {"provision p m0d0:\n", 1, api.ErrForm}, {"provision p m0d0: \n", 1, api.ErrForm}, {"provision p: 1\n", 1, api.ErrForm}, {"provision p m0d0 : 1\n", 1, api.ErrForm}, {"provision p m0d0:  1\n", 1, api.ErrForm}, {"provision p m0d0 1\n", 1, api.ErrForm}, {"provision p m0d0: 1: 1\n", 1, api.ErrForm}, {"provision p m0d0: 1, 1\n", 1, api.ErrForm}, {"provision p m0d0: add(1,1)\n", 1, api.ErrForm}, {"provision p m0d0: own.P\n", 1, api.ErrForm}, {"provision p m0d0: 1\x80\n", 1, api.ErrForm}, {"provision P m0d0: 1\n", 1, api.ErrForm}, {"provision p m4d0: 1\n", 1, api.ErrForm},
		{"provision p m1d0 Charge: $1\n", 1, api.ErrForm}, {"provision p m1d0charge: $1\n", 1, api.ErrForm}, {"provision p m1d0  charge: $1\n", 1, api.ErrForm}, {"provision p m1d0 charge : $1\n", 1, api.ErrForm}, {"provision p m1d0 charged: $1\n", 1, api.ErrForm}, {"provision p m1d0 charge charge: $1\n", 1, api.ErrForm}, {"provision p charge m1d0: $1\n", 1, api.ErrForm}, {"provision charge: $1\n", 1, api.ErrForm},
		{"provision p m1d0 step: $1\n", 1, api.ErrForm}, {"provision p m1d0 step 1 cap: $1\n", 1, api.ErrForm}, {"provision p m1d0 step 1 cap : $1\n", 1, api.ErrForm}, {"provision p m1d0 step cap 1: $1\n", 1, api.ErrForm}, {"provision p m1d0 step  cap 1: $1\n", 1, api.ErrForm}, {"provision p m1d0 cap 1 step 1: $1\n", 1, api.ErrForm}, {"provision p m1d0 cap 1: $1\n", 1, api.ErrForm}, {"provision p m1d0 step 1 cap 1 charge: $1\n", 1, api.ErrForm}, {"provision p m1d0 step 1 cap 1 step 1 cap 1: $1\n", 1, api.ErrForm}, {"provision p m1d0 step 1, cap 1: $1\n", 1, api.ErrForm}, {"provision p m1d0 step 2/2 cap 1: $1\n", 1, api.ErrForm}, {"provision p m1d0 step 1 cap 1.0: $1\n", 1, api.ErrForm}, {"provision p m1d0 step $1 cap $1: $1\n", 1, api.ErrForm},
		{"provision p m1d0 step 1 cap 1: $1\n", 0, api.OK}, {"provision p m1d0 step 1 cap 0: $1\n", 0, api.ErrArg}, {"provision p m1d0 step 0 cap 0: $1\n", 0, api.ErrArg}, {"provision p m1d0 step -1 cap -1: $1\n", 0, api.ErrArg}, {"provision p m1d0 step " + long + " cap " + long + ": $1\n", 0, api.ErrArg}, {"provision p truth step 1 cap 1: yes\n", 0, api.ErrArg}, {"provision p truth charge: yes\n", 0, api.ErrArg}, {"provision p m0d0: $1\n", 0, api.ErrType}, {"provision p m0d0: own.q\n", 0, api.ErrName},
		{"provision p truth: " + strings.Repeat("not(", 59) + "yes" + strings.Repeat(")", 59) + "\n", 0, api.OK}, {"provision p truth: " + strings.Repeat("not(", 60) + "yes" + strings.Repeat(")", 60) + "\n", 1, api.ErrForm}, {"provision p m0d0: " + long + "\n", 1, api.ErrForm}, {"provision p m0d0: near[0](1)\n", 1, api.ErrForm},
		{"fact a truth\nfact b truth\n", 0, api.OK}, {"fact b truth\nfact a truth\n", 0, api.ErrForm}, {"fact a truth\nfact a truth\n", 0, api.ErrForm}, {"fact a truth\nschedule a m0d0: 0 1\n", 0, api.ErrTwice}, {"schedule a m0d0: 0 1\nfact a truth\n", 0, api.ErrTwice}, {"fact z truth\nschedule y m0d0: 0 1\nprovision x m0d0: 1\n", 0, api.OK}, {"fact z truth\nprovision x m0d0: 1\nschedule y m0d0: 0 1\n", 0, api.ErrForm}, {"provision x m0d0: 1\nfact z truth\n", 0, api.ErrForm}, {"schedule y m0d0: 0 1\nfact z truth\n", 0, api.ErrForm}, {"provision x m0d0: 1\nschedule y m0d0: 0 1\n", 0, api.ErrForm}, {"fact a truth\nprovision x m0d0: 1\nfact z truth\n", 0, api.ErrForm}, {"provision x truth: 1\nfact z truth\n", 0, api.ErrType},
	} {
		if row.errno != api.OK {
			checkNoText(t, row.text, row.line, row.errno)
		}
		if errno := checkParse(t, row.text); errno != row.errno {
			t.Errorf("Parse of %q should have the error %d, not %d", row.text, row.errno, errno)
		}
	}
	checkText(t, api.Law{}, "")
}

// TestP11_5Many checks texts with as many things as are permitted, with more, and with very many.
func TestP11_5Many(t *testing.T) {
	full := textBy(fullLaw(20, 8, 30))
	checkParse(t, full)
	for _, l := range []api.Law{fullLaw(21, 8, 30), fullLaw(20, 9, 30), fullLaw(20, 8, 31)} {
		checkNoText(t, textBy(l), 0, api.ErrMany)
		checkNoText(t, textBy(l)+"fact z\n", len(l.Facts)+len(l.Schedules)+len(l.Provisions)+1, api.ErrForm)
	}
	for _, line := range []string{"fact a truth\n", "schedule a m0d0: 0 1\n", "provision a m0d0: 1\n"} {
		checkNoText(t, strings.Repeat(line, 100000), 0, api.ErrMany)
		checkNoText(t, strings.Repeat(line, 100000)+"x"+line, 100001, api.ErrForm)
		checkNoText(t, strings.Repeat(line, 100000)+line[:len(line)-1], 100001, api.ErrForm)
	}
	for _, s := range []string{strings.Repeat("\n", 1<<20), strings.Repeat(" ", 1<<20), strings.Repeat("fact ", 1<<18), "provision a m0d0: " + strings.Repeat("add(", 1<<18) + "\n", "schedule a m0d0: 0 " + strings.Repeat("x", 1<<20) + "\n"} {
		checkNoText(t, s, 1, api.ErrForm)
	}
}

// pieces are what lines consist of, and what they do not.
var pieces = []string{"fact", "schedule", "provision", " ", " a", " b", " truth", " m1d0", " m0d0", " m-1d3", " m4d0", " charge", " step", " cap", " 1", " 2/4", " 0", ":", ",", " $1", " yes", " own.a", "\n", ""}

// TestP11_5Pieces goes through lines with two pieces in place of others.
func TestP11_5Pieces(t *testing.T) {
	found := map[api.Errno]int{}
	for _, line := range [][]string{
		{"fact", " a", " truth", "\n"},
		{"schedule", " a", " m1d0", ":", " 0", " 1", ",", " 1", " 0", "\n"},
		{"provision", " a", " m1d0", " charge", " step", " 1", " cap", " 1", ":", " $1", "\n"},
	} {
		for first := range line {
			for second := range line[first:] {
				for _, a := range pieces {
					for _, b := range pieces {
						other := slices.Clone(line)
						other[first+second] = b
						other[first] = a
						found[checkParse(t, strings.Join(other, ""))]++
					}
				}
			}
		}
	}
	if found[api.OK] < 500 || found[api.ErrForm] < 10000 || found[api.ErrArg] < 10 || found[api.ErrType] < 10 {
		t.Errorf("some results are found too seldom: %v", found)
	}
}

// spoiledText returns a text with a change of a byte, a piece, a word or a line.
func spoiledText(r *rand.Rand, s string) string {
	at := r.IntN(len(s) + 1)
	to := min(len(s), at+r.IntN(3))
	lines := strings.SplitAfter(s, "\n")
	switch r.IntN(8) {
	case 0:
		return s[:at] + s[to:]
	case 1:
		return s[:at] + pick(r, pieces...) + s[to:]
	case 2:
		return s[:at] + string([]byte{pick(r, []byte(" \n:,.abz019_-/$()[]dm\x00\xff")...)}) + s[to:]
	case 3:
		from := r.IntN(len(lines))
		lines = slices.Delete(lines, from, from+1)
	case 4:
		from, other := r.IntN(len(lines)), r.IntN(len(lines))
		lines[from], lines[other] = lines[other], lines[from]
	case 5:
		lines = slices.Insert(lines, r.IntN(len(lines)), pick(r, lines...))
	default:
		words := strings.Split(s, " ")
		words[r.IntN(len(words))] = pick(r, words...)
		return strings.Join(words, " ")
	}
	return strings.Join(lines, "")
}

func TestP11_5Samples(t *testing.T) {
	r := rand.New(rand.NewPCG(11, 5))
	found := map[api.Errno]int{}
	for place := range 10000 {
		s := textBy(someLaw(r))
		for range 1 + place%2 {
			s = spoiledText(r, s)
		}
		found[checkParse(t, s)]++
	}
	for _, errno := range []api.Errno{api.OK, api.ErrForm, api.ErrName, api.ErrType, api.ErrTwice, api.ErrArg} {
		if found[errno] < 10 {
			t.Errorf("the error %d is found only %d times", errno, found[errno])
		}
	}
}

// TestP11_6Texts checks that different right laws have different texts, and that what Parse accepts has the text.
func TestP11_6Texts(t *testing.T) {
	r := rand.New(rand.NewPCG(11, 6))
	laws := map[string]api.Law{}
	check := func(l api.Law) {
		text, errno := statute.Text(l)
		if errno != api.OK {
			return
		}
		if other, ok := laws[text]; ok && !statute.Same(l, other) {
			t.Errorf("%v and %v have the text %q", l, other, text)
		}
		laws[text] = l
		back, _, errno := statute.Parse(text)
		again, _ := statute.Text(back)
		if errno != api.OK || !statute.Same(back, l) || again != text {
			t.Errorf("Parse of %q: %v, %d, with the text %q", text, back, errno, again)
		}
	}
	for _, l := range variants() {
		check(l)
	}
	for range 3000 {
		l := someLaw(r)
		check(l)
		for range 3 {
			spoil(r, &l)
			check(l)
		}
	}
	if len(laws) < 4000 {
		t.Errorf("only %d right laws", len(laws))
	}
}

// TestR3 checks that no two results share memory, nor parts of one.
func TestR3(t *testing.T) {
	first, second := lawOf(example), lawOf(example)
	first.Facts[0] = api.Decl{}
	first.Schedules[0].Brackets[0] = api.Bracket{}
	first.Schedules[0] = api.Schedule{}
	first.Provisions[0].Body[0] = api.Node{}
	first.Provisions[0] = api.Provision{}
	checkText(t, second, example)
	twice := lawOf("schedule a m0d0: 0 1\nschedule b m0d0: 0 1\nprovision c m0d0: 1\nprovision d m0d0: 1\n")
	twice.Schedules[0].Brackets = append(twice.Schedules[0].Brackets, api.Bracket{})
	twice.Schedules[0].Brackets[0].Rate = num("2")
	twice.Provisions[0].Body[0].Num = num("2")
	twice.Schedules[0].Brackets = twice.Schedules[0].Brackets[:1]
	checkText(t, twice, "schedule a m0d0: 0 2\nschedule b m0d0: 0 1\nprovision c m0d0: 2\nprovision d m0d0: 1\n")
}
