package rate_test

import (
	"math/big"
	"strings"
	"testing"

	"tithing/api"
	"tithing/rate"
	"tithing/ratio"
)

var zero = api.Rat{Den: "\x01"}

// amount returns the amount of a text in lowest terms.
func amount(s string) api.Rat {
	a, ok := ratio.Parse(s)
	if !ok {
		panic("no amount in lowest terms: " + s)
	}
	return a
}

// amounts returns the amounts of texts between spaces.
func amounts(s string) []api.Rat {
	var l []api.Rat
	for _, text := range strings.Fields(s) {
		l = append(l, amount(text))
	}
	return l
}

// schedule returns the schedule with these brackets, two amounts for each: From and Rate.
func schedule(l ...api.Rat) api.Schedule {
	s := api.Schedule{Name: "s", Unit: api.Unit{Money: 1}}
	for place := 0; place+1 < len(l); place += 2 {
		s.Brackets = append(s.Brackets, api.Bracket{From: l[place], Rate: l[place+1]})
	}
	return s
}

// scheduleOf returns the schedule whose brackets are texts between spaces.
func scheduleOf(s string) api.Schedule { return schedule(amounts(s)...) }

// written returns the brackets of a schedule as scheduleOf reads them.
func written(s api.Schedule) string {
	var texts []string
	for _, b := range s.Brackets {
		texts = append(texts, ratio.Text(b.From), ratio.Text(b.Rate))
	}
	return strings.Join(texts, " ")
}

// power returns 2 to the power of so many bits, with so much added.
func power(bits, more int) api.Rat {
	x := new(big.Int).Lsh(big.NewInt(1), uint(bits))
	x.Add(x, big.NewInt(int64(more)))
	return api.Rat{Num: api.Nat(x.Bytes()), Den: "\x01"}
}

// inverse returns 1 / a.
func inverse(a api.Rat) api.Rat {
	b, _ := ratio.Quo(ratio.Of(1), a)
	return b
}

// wrong returns api.Rats that are no amounts, for each of the reasons; one of them is too long, too.
func wrong() []api.Rat {
	return []api.Rat{
		{}, {Neg: true}, {Num: "\x01"}, {Num: "\x05", Neg: true}, // the denominator is 0
		{Num: "\x00", Den: "\x01"}, {Num: "\x00\x05", Den: "\x01"}, {Num: "\x05", Den: "\x00\x01"}, // zeros in front
		{Num: "\x04", Den: "\x02"}, {Num: "\x0a", Den: "\x04", Neg: true}, {Num: power(401, 0).Num, Den: power(400, 0).Num}, // a common divisor
		{Den: "\x02"}, {Den: "\x01", Neg: true}, // 0 with another denominator, or a sign
	}
}

// long returns amounts that do not fit, by a bit or by many.
func long() []api.Rat {
	return []api.Rat{power(400, 0), ratio.Neg(power(400, 0)), inverse(power(400, 0)), ratio.Neg(inverse(power(400, 0))), power(900, 7), inverse(power(900, 7)), ratio.Add(power(400, 0), inverse(power(900, 0)))}
}

// longest returns amounts that just fit.
func longest() []api.Rat {
	most := power(400, -1)
	below, _ := ratio.Quo(power(400, -3), most)
	return []api.Rat{most, ratio.Neg(most), inverse(most), ratio.Neg(inverse(most)), power(399, 0), inverse(power(399, 0)), below}
}

// numberOf returns an amount as a number of the library, which the tests compare with.
func numberOf(a api.Rat) *big.Rat {
	num, den := new(big.Int).SetBytes([]byte(a.Num)), new(big.Int).SetBytes([]byte(a.Den))
	if a.Neg {
		num.Neg(num)
	}
	return new(big.Rat).SetFrac(num, den)
}

// amountOf returns the amount of a number of the library.
func amountOf(x *big.Rat) api.Rat {
	return api.Rat{Neg: x.Sign() < 0, Num: api.Nat(x.Num().Bytes()), Den: api.Nat(x.Denom().Bytes())}
}

// fits reports whether a number fits.
func fits(x *big.Rat) bool {
	return x.Num().BitLen() <= api.MaxBits && x.Denom().BitLen() <= api.MaxBits
}

// expected returns what a call that computes a number returns: the number, or that it does not fit.
func expected(x *big.Rat) (api.Rat, api.Errno) {
	if !fits(x) {
		return api.Rat{}, api.ErrRange
	}
	return amountOf(x), api.OK
}

// function is one of the functions that take a schedule and an amount.
type function struct {
	name string
	call func(api.Schedule, api.Rat) (api.Rat, api.Errno)
}

var at, marginal, inverted = function{"At", rate.At}, function{"Marginal", rate.Marginal}, function{"Inverse", rate.Inverse}

// check checks what a function returns for a schedule and an amount.
func (f function) check(t *testing.T, s api.Schedule, x, want api.Rat, errno api.Errno) {
	t.Helper()
	if got, e := f.call(s, x); got != want || e != errno {
		t.Errorf("%s of %s for %s: %s, %d, not %s, %d", f.name, written(s), ratio.Text(x), ratio.Text(got), e, ratio.Text(want), errno)
	}
}

// fails checks that a function returns an error, and nothing else.
func (f function) fails(t *testing.T, s api.Schedule, x api.Rat, errno api.Errno) {
	t.Helper()
	f.check(t, s, x, api.Rat{}, errno)
}

// checkErrno checks what Check returns, and what the others return with an error of it, whatever the amount is.
func checkErrno(t *testing.T, s api.Schedule, errno api.Errno) {
	t.Helper()
	if got := rate.Check(s); got != errno {
		t.Errorf("Check of %s: %d, not %d", written(s), got, errno)
	}
	if errno == api.OK {
		return
	}
	if rate.Rising(s) {
		t.Errorf("%s is rising", written(s))
	}
	for _, x := range []api.Rat{zero, ratio.Of(5), ratio.Of(-1), {}, power(400, 0)} {
		for _, f := range []function{at, marginal, inverted} {
			f.fails(t, s, x, errno)
		}
	}
}

// TestExamples checks the rows of the chapter's section 'Examples'.
func TestExamples(t *testing.T) {
	s, flat := scheduleOf("0 0 100 1/10 300 1/4"), scheduleOf("0 1/2 10 0")
	for _, x := range []struct {
		f       function
		s       api.Schedule
		x, want string
	}{
		{at, s, "50", "0"}, {at, s, "200", "10"}, {at, s, "500", "70"}, {at, s, "-1", "0"}, {marginal, s, "100", "1/10"}, {marginal, s, "-1", "0"},
		{inverted, s, "10", "200"}, {inverted, s, "0", "0"}, {inverted, flat, "5", "10"},
	} {
		x.f.check(t, x.s, amount(x.x), amount(x.want), api.OK)
	}
	inverted.fails(t, s, amount("-1"), api.ErrNone)
	inverted.fails(t, flat, amount("6"), api.ErrNone)
	checkErrno(t, api.Schedule{}, api.ErrForm)
	checkErrno(t, scheduleOf("1 0"), api.ErrForm)
	checkErrno(t, scheduleOf("0 0 1 0 2 0 3 0 4 0 5 0 6 0 7 0 8 0"), api.ErrMany)
	l := dayRates("10 1 5 2 10 3 20 3")
	checkNorm(t, l, dayRates("5 2 10 3"))
	checkOn(t, l, 4, zero)
	checkOn(t, l, 12, amount("3"))
	checkOver(t, l, api.Span{From: 8, To: 12}, amount("10"), true)
}

// TestDocExample checks the row of the document's section 'Examples' that is about schedules.
func TestDocExample(t *testing.T) {
	at.check(t, scheduleOf("0 1/10 1000 1/5"), amount("2000"), amount("300"), api.OK)
}
