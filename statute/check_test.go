package statute_test

import (
	"math/big"
	"math/rand/v2"
	"regexp"
	"slices"
	"strconv"
	"strings"
	"testing"

	"tithing/api"
	"tithing/check"
	"tithing/expr"
	"tithing/rate"
	"tithing/ratio"
	"tithing/statute"
)

// sigsBy returns the sigs of a law.
func sigsBy(l api.Law) []api.Sig {
	var facts, own, prior, spouse, schedules []api.Sig
	for _, f := range l.Facts {
		facts = append(facts, api.Sig{Op: api.OpFact, Name: f.Name, Type: f.Type})
	}
	for _, p := range l.Provisions {
		own = append(own, api.Sig{Op: api.OpOwn, Name: p.Name, Type: p.Type})
		prior = append(prior, api.Sig{Op: api.OpPrior, Name: p.Name, Type: p.Type})
		spouse = append(spouse, api.Sig{Op: api.OpSpouse, Name: p.Name, Type: p.Type})
	}
	for _, s := range l.Schedules {
		schedules = append(schedules, api.Sig{Op: api.OpRate, Name: s.Name, Type: number(s.Unit.Money, s.Unit.Days)})
	}
	return slices.Concat(facts, own, prior, spouse, schedules)
}

// errorBy returns the error of a law, as the chapter defines it.
func errorBy(l api.Law) api.Errno {
	if len(l.Facts) > 20 || len(l.Schedules) > 8 || len(l.Provisions) > 30 {
		return api.ErrMany
	}
	if errno := nameErrorBy(l); errno != api.OK {
		return errno
	}
	for _, sig := range sigsBy(l) {
		if !slices.Contains(allTypes(), sig.Type) {
			return api.ErrType
		}
	}
	for _, s := range l.Schedules {
		if errno := rate.Check(s); errno != api.OK {
			return errno
		}
	}
	for _, p := range l.Provisions {
		if errno := provisionErrorBy(p, sigsBy(l)); errno != api.OK {
			return errno
		}
	}
	return api.OK
}

// nameForm is what a name looks like.
var nameForm = regexp.MustCompile(`\A[a-z][a-z0-9_]{0,19}\z`)

// nameErrorBy returns the error that the names of a law have.
func nameErrorBy(l api.Law) api.Errno {
	var lists [3][]string
	for _, sig := range sigsBy(l) {
		switch sig.Op {
		case api.OpFact:
			lists[0] = append(lists[0], sig.Name)
		case api.OpRate:
			lists[1] = append(lists[1], sig.Name)
		case api.OpOwn:
			lists[2] = append(lists[2], sig.Name)
		}
	}
	all := slices.Concat(lists[:]...)
	for _, name := range all {
		if !nameForm.MatchString(name) {
			return api.ErrName
		}
	}
	for _, list := range lists {
		for place := range list {
			if place > 0 && strings.Compare(list[place-1], list[place]) != -1 {
				return api.ErrForm
			}
		}
	}
	slices.Sort(all)
	if len(slices.Compact(slices.Clone(all))) != len(all) {
		return api.ErrTwice
	}
	return api.OK
}

// provisionErrorBy returns the error of a provision in a law with these sigs.
func provisionErrorBy(p api.Provision, sigs []api.Sig) api.Errno {
	is, errno := check.Type(sigs, p.Body)
	switch {
	case errno != api.OK:
		return errno
	case is != p.Type:
		return api.ErrType
	case p.Charge && p.Type != cash:
		return api.ErrArg
	case p.Step == api.Rat{} && p.Cap == api.Rat{}:
		return api.OK
	case p.Type.Truth || !fitsBy(p.Step) || !fitsBy(p.Cap):
		return api.ErrArg
	}
	step, cap := valueOf(p.Step), valueOf(p.Cap)
	for units := range int64(201) {
		if units > 0 && step.Sign() > 0 && new(big.Rat).Mul(step, big.NewRat(units, 1)).Cmp(cap) == 0 {
			return api.OK
		}
	}
	return api.ErrArg
}

// valueOf returns the value of an amount.
func valueOf(a api.Rat) *big.Rat {
	v, ok := new(big.Rat).SetString(ratio.Text(a))
	if !ok {
		panic("no number")
	}
	return v
}

// fitsBy reports whether a is an amount that fits.
func fitsBy(a api.Rat) bool {
	return ratio.Right(a) && valueOf(a).Num().BitLen() <= 400 && valueOf(a).Denom().BitLen() <= 400
}

func TestP11_2Many(t *testing.T) {
	checkError(t, fullLaw(20, 8, 30), api.OK)
	for _, l := range []api.Law{fullLaw(21, 0, 0), fullLaw(0, 9, 0), fullLaw(0, 0, 31), fullLaw(21, 8, 30), fullLaw(20, 9, 30), fullLaw(20, 8, 31), fullLaw(50, 50, 50)} {
		checkError(t, l, api.ErrMany)
	}
	for _, count := range []int{21, 22, 100, 100000} { // things with all other errors
		checkError(t, api.Law{Facts: make([]api.Decl, count)}, api.ErrMany)
		checkError(t, api.Law{Schedules: make([]api.Schedule, count)}, api.ErrMany)
		checkError(t, api.Law{Provisions: make([]api.Provision, count+10)}, api.ErrMany)
	}
}

func TestP11_2Name(t *testing.T) {
	for _, name := range []string{"", "A", "1", "_a", "a.b", "a b", "a\n", "é", "a\xff", strings.Repeat("a", 21), strings.Repeat("a", 100000)} {
		for _, rename := range renames(exampleLaw()) {
			checkError(t, rename(name), api.ErrName)
		}
	}
	long := strings.Repeat("z", 20)
	checkError(t, changed(func(l *api.Law) { l.Facts[1].Name, l.Provisions[0].Body = long, parsed("$1") }), api.OK)
	checkError(t, changed(func(l *api.Law) { l.Facts[1].Name, l.Provisions[0].Body = long+"z", parsed("$1") }), api.ErrName)
}

// renames returns for each thing of a law what gives it another name.
func renames(l api.Law) []func(name string) api.Law {
	var all []func(name string) api.Law
	for place := range l.Facts {
		all = append(all, func(name string) api.Law { l := copyOf(l); l.Facts[place].Name = name; return l })
	}
	for place := range l.Schedules {
		all = append(all, func(name string) api.Law { l := copyOf(l); l.Schedules[place].Name = name; return l })
	}
	for place := range l.Provisions {
		all = append(all, func(name string) api.Law { l := copyOf(l); l.Provisions[place].Name = name; return l })
	}
	return all
}

// TestP11_2Order checks names that do not increase, of each kind of things.
func TestP11_2Order(t *testing.T) {
	for _, row := range []struct {
		names []string
		want  api.Errno
	}{
		{nil, api.OK}, {[]string{"a"}, api.OK}, {[]string{"a", "b"}, api.OK}, {[]string{"a", "a0", "a_", "aa", "ab", "b"}, api.OK},
		{[]string{"a", "a"}, api.ErrForm}, {[]string{"b", "a"}, api.ErrForm}, {[]string{"a", "b", "a"}, api.ErrForm}, {[]string{"a", "b", "b"}, api.ErrForm}, {[]string{"aa", "a"}, api.ErrForm},
		{[]string{"a_", "a0"}, api.ErrForm}, {[]string{"aa", "a_"}, api.ErrForm}, {[]string{"a10", "a9"}, api.OK}, {[]string{"a9", "a10"}, api.ErrForm},
	} {
		var facts, schedules, provisions api.Law
		for _, name := range row.names {
			facts.Facts = append(facts.Facts, api.Decl{Name: name})
			schedules.Schedules = append(schedules.Schedules, schedule(name, api.Unit{}, "0", "0"))
			provisions.Provisions = append(provisions.Provisions, api.Provision{Name: name, Body: parsed("1")})
		}
		checkError(t, facts, row.want)
		checkError(t, schedules, row.want)
		checkError(t, provisions, row.want)
		schedules.Facts, schedules.Provisions = []api.Decl{{Name: "zz"}}, []api.Provision{{Name: "a1", Body: parsed("1")}} // in no order with the others
		checkError(t, schedules, row.want)
	}
}

func TestP11_2Twice(t *testing.T) {
	fact, other, provision := []api.Decl{{Name: "a"}}, []api.Schedule{schedule("a", api.Unit{}, "0", "0")}, []api.Provision{{Name: "a", Body: parsed("1")}}
	checkError(t, api.Law{Facts: fact, Schedules: other}, api.ErrTwice)
	checkError(t, api.Law{Facts: fact, Provisions: provision}, api.ErrTwice)
	checkError(t, api.Law{Schedules: other, Provisions: provision}, api.ErrTwice)
	checkError(t, api.Law{Facts: fact, Schedules: other, Provisions: provision}, api.ErrTwice)
	l := fullLaw(20, 8, 30)
	l.Facts[19].Name = "s107"
	checkError(t, l, api.ErrTwice)
	l.Facts[19].Name = "s108"
	checkError(t, l, api.OK)
}

func TestP11_2Types(t *testing.T) {
	for _, is := range allTypes() {
		l := api.Law{Facts: []api.Decl{{Name: "a", Type: is}}, Provisions: []api.Provision{{Name: "b", Type: is, Body: parsed("fact.a")}}}
		checkError(t, l, api.OK)
		if !is.Truth {
			l.Schedules = []api.Schedule{schedule("s", is.Unit, "0", "1")}
			l.Provisions[0].Body = parsed("rate.s(add(fact.a, max(own.b, add(prior.b, spouse.b))))")
			checkError(t, l, api.OK)
		}
		for _, other := range allTypes() {
			if other != is {
				l.Provisions[0].Type, l.Provisions[0].Body = other, parsed("fact.a")
				checkError(t, l, api.ErrType)
			}
		}
	}
	for _, is := range noTypes() {
		checkError(t, changed(func(l *api.Law) { l.Facts[0].Type = is }), api.ErrType)
		checkError(t, changed(func(l *api.Law) { l.Provisions[1].Type = is }), api.ErrType)
		if !check.Unit(is.Unit) {
			checkError(t, changed(func(l *api.Law) { l.Schedules[0].Unit = is.Unit }), api.ErrType)
			checkError(t, api.Law{Schedules: []api.Schedule{schedule("s", is.Unit, "0", "1")}}, api.ErrType)
		}
	}
}

func TestP11_2Schedules(t *testing.T) {
	long := ratio.Mul(num("2"), num(power(399))) // of 401 bits
	for want, brackets := range map[api.Errno][]api.Bracket{
		api.ErrMany:  make([]api.Bracket, 9),
		api.ErrForm:  nil,
		api.ErrRange: {{From: num("0"), Rate: long}},
	} {
		checkError(t, changed(func(l *api.Law) { l.Schedules[0].Brackets = brackets }), want)
		l := fullLaw(0, 3, 0)
		l.Schedules[1].Brackets = brackets
		checkError(t, l, want)
		l.Schedules[2].Brackets = []api.Bracket{{From: num("1")}} // ErrForm, which is later
		checkError(t, l, want)
	}
}

// power returns the text of a power of 2.
func power(exponent uint) string {
	return new(big.Int).Lsh(big.NewInt(1), exponent).String()
}

func TestP11_2Bodies(t *testing.T) {
	for _, row := range []struct {
		body string
		want api.Errno
	}{
		{"fact.income", api.OK}, {"own.aid", api.OK}, {"own.tax", api.OK}, {"prior.aid", api.OK}, {"prior.tax", api.OK}, {"spouse.aid", api.OK}, {"spouse.tax", api.OK}, {"rate.scale($5)", api.OK}, {"$0", api.OK}, {"div($1, 0)", api.OK},
		{"own.income", api.ErrName}, {"prior.income", api.ErrName}, {"spouse.scale", api.ErrName}, {"own.scale", api.ErrName}, {"fact.aid", api.ErrName}, {"fact.scale", api.ErrName}, {"fact.other", api.ErrName}, {"rate.tax($5)", api.ErrName}, {"rate.income($5)", api.ErrName}, {"rate.other($5)", api.ErrName},
		{"add(own.none, yes)", api.ErrName}, {"add(add($1, yes), own.none)", api.ErrType},
		{"fact.single", api.ErrType}, {"5", api.ErrType}, {"1d", api.ErrType}, {"yes", api.ErrType}, {"mul($1, $1)", api.ErrType}, {"rate.scale(1)", api.ErrType}, {"add(own.tax, 1)", api.ErrType}, {"not(fact.income)", api.ErrType},
	} {
		for place := range 2 {
			checkError(t, changed(func(l *api.Law) { l.Provisions[place].Body = parsed(row.body) }), row.want)
		}
	}
	for want, body := range map[api.Errno][]api.Node{
		api.ErrForm: nil,
		api.ErrName: {{Op: api.OpOwn}},
		api.ErrMany: slices.Repeat([]api.Node{{Op: api.OpCash, Num: num("1")}}, 61),
	} {
		checkError(t, changed(func(l *api.Law) { l.Provisions[1].Body = body }), want)
		checkError(t, changed(func(l *api.Law) { l.Provisions[1].Body, l.Provisions[1].Step = body, num("1") }), want)
		checkError(t, changed(func(l *api.Law) { l.Provisions[0].Body, l.Provisions[1].Body = body, parsed("5") }), want)
		checkError(t, changed(func(l *api.Law) { l.Provisions[0].Step, l.Provisions[1].Body = num("1/7"), body }), api.ErrArg)
		checkError(t, changed(func(l *api.Law) { l.Provisions[0].Body, l.Provisions[1].Body = parsed("5"), body }), api.ErrType)
	}
	checkError(t, changed(func(l *api.Law) { l.Provisions[0].Body = append(l.Provisions[0].Body, api.Node{}) }), api.ErrForm)
}

func TestP11_2Charge(t *testing.T) {
	for _, is := range allTypes() {
		l := api.Law{Provisions: []api.Provision{{Name: "a", Type: is, Body: parsed("prior.a"), Charge: true}}}
		want := api.ErrArg
		if is == cash {
			want = api.OK
		}
		checkError(t, l, want)
		l.Provisions[0].Charge = false
		checkError(t, l, api.OK)
	}
}

func TestP11_2Capped(t *testing.T) {
	long := num(power(399))
	short, _ := ratio.Quo(num("1"), long)
	wrong := api.Rat{Num: "\x02", Den: "\x02"}
	for _, row := range []struct {
		step, cap api.Rat
		want      api.Errno
	}{
		{api.Rat{}, api.Rat{}, api.OK},
		{num("10"), num("10"), api.OK}, {num("10"), num("20"), api.OK}, {num("10"), num("1990"), api.OK}, {num("10"), num("2000"), api.OK}, {num("1/3"), num("1"), api.OK}, {num("1/3"), num("200/3"), api.OK}, {num("7/2"), num("21"), api.OK}, {num("1/100"), num("2"), api.OK},
		{long, long, api.OK}, {short, short, api.OK}, {short, ratio.Mul(short, num("200")), api.OK},
		{num("10"), num("2010"), api.ErrArg}, {num("1/3"), num("67"), api.ErrArg}, {num("10"), num("5"), api.ErrArg}, {num("10"), num("15"), api.ErrArg}, {num("10"), num("2001"), api.ErrArg}, {num("10"), num("19999/10"), api.ErrArg}, {num("1/100"), num("1/3"), api.ErrArg}, {num("1/100"), num("201/100"), api.ErrArg},
		{num("10"), num("0"), api.ErrArg}, {num("10"), num("-10"), api.ErrArg}, {num("-10"), num("10"), api.ErrArg}, {num("-10"), num("-10"), api.ErrArg}, {num("0"), num("0"), api.ErrArg}, {num("0"), num("10"), api.ErrArg},
		{num("10"), api.Rat{}, api.ErrArg}, {api.Rat{}, num("10"), api.ErrArg}, {num("0"), api.Rat{}, api.ErrArg}, {api.Rat{}, num("0"), api.ErrArg}, {api.Rat{Neg: true}, api.Rat{}, api.ErrArg}, {api.Rat{}, api.Rat{Neg: true}, api.ErrArg},
		{wrong, num("10"), api.ErrArg}, {num("1"), wrong, api.ErrArg}, {wrong, wrong, api.ErrArg}, {num("1"), api.Rat{Num: "\x01"}, api.ErrArg}, {api.Rat{Num: "\x00\x01", Den: "\x01"}, num("1"), api.ErrArg},
		{long, ratio.Mul(long, num("2")), api.ErrArg}, {ratio.Mul(long, num("2")), ratio.Mul(long, num("2")), api.ErrArg}, {ratio.Mul(short, num("1/2")), ratio.Mul(short, num("1/2")), api.ErrArg}, {ratio.Mul(short, num("1/2")), short, api.ErrArg},
	} {
		for _, is := range allTypes() {
			l := api.Law{Provisions: []api.Provision{{Name: "a", Type: is, Body: parsed("prior.a"), Step: row.step, Cap: row.cap}}}
			want := row.want
			if is.Truth && row.step != (api.Rat{}) {
				want = api.ErrArg
			}
			checkError(t, l, want)
		}
	}
	for units := range 300 {
		l := api.Law{Provisions: []api.Provision{{Name: "a", Type: cash, Body: parsed("prior.a"), Step: num("2/7"), Cap: ratio.Mul(num("2/7"), ratio.Of(units))}}}
		want := api.ErrArg
		if units >= 1 && units <= 200 {
			want = api.OK
		}
		checkError(t, l, want)
	}
}

// stages returns changes with an error, in the order of the errors: each one has an error that is earlier than those of the ones after it, with which it can be combined.
func stages() []struct {
	change func(l *api.Law)
	want   api.Errno
} {
	return []struct {
		change func(l *api.Law)
		want   api.Errno
	}{
		{func(l *api.Law) { l.Schedules = append(l.Schedules, make([]api.Schedule, 8)...) }, api.ErrMany},
		{func(l *api.Law) { l.Provisions[1].Name = "Tax" }, api.ErrName},
		{func(l *api.Law) { l.Facts = append(l.Facts, api.Decl{Name: "aa"}) }, api.ErrForm},
		{func(l *api.Law) { l.Facts[0].Name = "aid" }, api.ErrTwice},
		{func(l *api.Law) { l.Provisions[1].Type.Unit.Money = 4 }, api.ErrType},
		{func(l *api.Law) { l.Schedules[0].Brackets = make([]api.Bracket, 9) }, api.ErrMany},
		{func(l *api.Law) { l.Provisions[0].Body = nil }, api.ErrForm},
		{func(l *api.Law) { l.Provisions[0].Type = plain }, api.ErrType},
		{func(l *api.Law) { l.Provisions[0].Step = num("0") }, api.ErrArg},
		{func(l *api.Law) { l.Provisions[1].Body = []api.Node{{Op: api.OpOwn}} }, api.ErrName},
		{func(l *api.Law) { l.Provisions[1].Charge, l.Provisions[1].Step = true, num("1") }, api.ErrArg},
	}
}

// TestP11_2First checks that the first of several errors is returned.
func TestP11_2First(t *testing.T) {
	for first, a := range stages() {
		checkError(t, changed(a.change), a.want)
		for _, b := range stages()[first+1:] {
			checkError(t, changed(func(l *api.Law) { b.change(l); a.change(l) }), a.want)
			for _, c := range stages()[first+1:] {
				checkError(t, changed(func(l *api.Law) { c.change(l); b.change(l); a.change(l) }), a.want)
			}
		}
	}
}

// spoil makes a change somewhere in a law, after which it is mostly not right.
func spoil(r *rand.Rand, l *api.Law) {
	switch kind := r.IntN(4); {
	case kind == 0 && len(l.Facts) > 0:
		spoilFacts(r, l)
	case kind == 1 && len(l.Schedules) > 0:
		spoilSchedules(r, l)
	case kind > 1 && len(l.Provisions) > 0:
		spoilProvisions(r, l)
	}
}

// otherName returns a name that another thing may have, or one that is none.
func otherName(r *rand.Rand, l api.Law) string {
	if sigs := sigsBy(l); len(sigs) > 0 && r.IntN(3) == 0 {
		return pick(r, sigs...).Name
	}
	return pick(r, "", "A", "0", "a", "m", "zzzz", someName(r), someName(r), strings.Repeat("a", 21))
}

func spoilFacts(r *rand.Rand, l *api.Law) {
	place := r.IntN(len(l.Facts))
	switch r.IntN(4) {
	case 0:
		l.Facts[place].Name = otherName(r, *l)
	case 1:
		l.Facts[place].Type = pick(r, append(noTypes(), allTypes()...)...)
	case 2:
		l.Facts = slices.Delete(l.Facts, place, place+1)
	case 3:
		l.Facts = append(l.Facts, pick(r, l.Facts...))
	}
}

func spoilSchedules(r *rand.Rand, l *api.Law) {
	place := r.IntN(len(l.Schedules))
	s := &l.Schedules[place]
	switch r.IntN(6) {
	case 0:
		s.Name = otherName(r, *l)
	case 1:
		s.Unit = pick(r, append(noTypes(), allTypes()...)...).Unit
	case 2:
		s.Brackets = s.Brackets[r.IntN(len(s.Brackets)+1):]
	case 3:
		s.Brackets = slices.Concat(s.Brackets, pick(r, l.Schedules...).Brackets)
	case 4:
		l.Schedules = slices.Delete(l.Schedules, place, place+1)
	case 5:
		l.Schedules = append(l.Schedules, pick(r, l.Schedules...))
	}
}

func spoilProvisions(r *rand.Rand, l *api.Law) {
	place := r.IntN(len(l.Provisions))
	p := &l.Provisions[place]
	switch r.IntN(9) {
	case 0:
		p.Name = otherName(r, *l)
	case 1:
		p.Type = pick(r, append(noTypes(), allTypes()...)...)
	case 2:
		p.Body = pick(r, l.Provisions...).Body
	case 3:
		p.Body = spoiledBody(r, p.Body, *l)
	case 4:
		p.Charge = !p.Charge
	case 5:
		p.Step = pick(r, api.Rat{}, num("0"), num("1"), num("1/2"), num("-1"), pick(r, l.Provisions...).Step)
	case 6:
		p.Cap = pick(r, api.Rat{}, num("0"), num("1"), num("10"), num("-1"), pick(r, l.Provisions...).Cap)
	case 7:
		l.Provisions = slices.Delete(l.Provisions, place, place+1)
	case 8:
		l.Provisions = append(l.Provisions, pick(r, l.Provisions...))
	}
}

// spoiledBody returns a body with another node, or with one more.
func spoiledBody(r *rand.Rand, body []api.Node, l api.Law) []api.Node {
	name := otherName(r, l)
	n := pick(r, api.Node{Op: api.OpFact + r.IntN(4), Name: name}, api.Node{Op: api.OpRate, Name: name}, api.Node{Op: api.OpAdd + r.IntN(12)}, api.Node{Op: api.OpCash, Num: num("1")}, api.Node{})
	made := slices.Clone(body)
	if len(made) == 0 || r.IntN(4) == 0 {
		return append(made, n)
	}
	made[r.IntN(len(made))] = n
	return made
}

func TestP11_2Samples(t *testing.T) {
	r := rand.New(rand.NewPCG(11, 2))
	found := map[api.Errno]int{}
	for place := range 5000 {
		l := someLaw(r)
		checkError(t, l, api.OK)
		if !slices.Equal(statute.Sigs(l), sigsBy(l)) {
			t.Errorf("Sigs of %v", l)
		}
		for range 1 + place%3 {
			spoil(r, &l)
		}
		want := errorBy(l)
		checkError(t, l, want)
		found[want]++
	}
	for _, errno := range []api.Errno{api.OK, api.ErrMany, api.ErrForm, api.ErrName, api.ErrType, api.ErrTwice, api.ErrArg} {
		if found[errno] < 10 {
			t.Errorf("the error %d is found only %d times", errno, found[errno])
		}
	}
}

// TestP11_7Without checks that a right law without a provision is right exactly if no other one uses its name.
func TestP11_7Without(t *testing.T) {
	r := rand.New(rand.NewPCG(11, 7))
	found := map[api.Errno]int{}
	for range 1000 {
		l := someLaw(r)
		for place, p := range l.Provisions {
			if is, errno := check.Type(statute.Sigs(l), p.Body); is != p.Type || errno != api.OK {
				t.Errorf("the body of %s has the type %v, %d, not %v", p.Name, is, errno, p.Type)
			}
			without := copyOf(l)
			without.Provisions = slices.Delete(without.Provisions, place, place+1)
			want := api.OK
			for _, other := range without.Provisions {
				if slices.ContainsFunc(other.Body, func(n api.Node) bool { return n.Op != api.OpRate && n.Name == p.Name }) {
					want = api.ErrName
				}
			}
			checkError(t, without, want)
			found[want]++
		}
	}
	if found[api.OK] < 300 || found[api.ErrName] < 300 {
		t.Errorf("some results are found too seldom: %v", found)
	}
}

// TestP11_8Bodies checks that a law stays right with another body of the same type, and only with one of this type.
func TestP11_8Bodies(t *testing.T) {
	r := rand.New(rand.NewPCG(11, 8))
	for place := range 1000 {
		l := someLaw(r)
		for at := range l.Provisions {
			p := &l.Provisions[at]
			p.Body = someOf(r, sigsBy(l), p.Type, 1+place%api.MaxNodes)
			checkError(t, l, api.OK)
			other := copyOf(l)
			is := pick(r, cash, days, plain, truth)
			if is == p.Type {
				continue
			}
			other.Provisions[at].Body = someOf(r, sigsBy(l), is, 1+place%api.MaxNodes)
			checkError(t, other, api.ErrType)
		}
	}
}

// TestP11_2Huge checks that parts of any size are judged.
func TestP11_2Huge(t *testing.T) {
	name := strings.Repeat("a", 1<<20)
	huge := api.Rat{Num: api.Nat(name), Den: "\x01"}
	checkError(t, changed(func(l *api.Law) { l.Provisions[0].Step, l.Provisions[0].Cap = huge, huge }), api.ErrArg)
	checkError(t, changed(func(l *api.Law) { l.Provisions[1].Body = []api.Node{{Op: api.OpCash, Num: huge}} }), api.ErrForm)
	checkError(t, changed(func(l *api.Law) { l.Provisions[1].Body = []api.Node{{Op: api.OpOwn, Name: name}} }), api.ErrName)
	checkError(t, changed(func(l *api.Law) { l.Provisions[1].Body = make([]api.Node, 1<<16) }), api.ErrMany)
	checkError(t, changed(func(l *api.Law) { l.Schedules[0].Brackets = make([]api.Bracket, 1<<16) }), api.ErrMany)
	checkError(t, changed(func(l *api.Law) { l.Schedules[0].Brackets[0].Rate = huge }), api.ErrRange)
	for place := range 30 {
		l := fullLaw(20, 8, 30)
		l.Provisions[place].Body = parsed(strings.Repeat("add(own.p129, ", 29) + "own.p" + strconv.Itoa(100+place) + strings.Repeat(")", 29))
		checkError(t, l, api.OK)
		if len(l.Provisions[place].Body) != 59 || expr.Check(l.Provisions[place].Body) != api.OK {
			t.Error("no expression of 59 nodes")
		}
	}
}
