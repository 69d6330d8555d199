package rate_test

import (
	"math/big"
	"math/rand/v2"
	"testing"

	"tithing/api"
	"tithing/rate"
	"tithing/ratio"
)

func TestP6_3Inverse(t *testing.T) {
	s := scheduleOf("0 1/2 10 0 30 1 40 0 50 0 60 1/3")
	for _, x := range []struct{ y, want string }{
		{"0", "0"}, {"1/1000", "1/500"}, {"5/2", "5"}, {"4999/1000", "4999/500"}, {"5", "10"}, {"5001/1000", "30001/1000"}, {"10", "35"}, {"15", "40"}, {"16", "63"}, {"1000015", "3000060"},
	} {
		inverted.check(t, s, amount(x.y), amount(x.want), api.OK)
	}
	flatFirst := scheduleOf("0 0 4 0 6 1")
	inverted.check(t, flatFirst, zero, zero, api.OK)
	inverted.check(t, flatFirst, amount("1/8"), amount("49/8"), api.OK)
	inverted.check(t, scheduleOf("0 0"), zero, zero, api.OK)
	inverted.check(t, scheduleOf("0 1/3"), amount("7"), amount("21"), api.OK)
}

func TestP6_3None(t *testing.T) {
	rises, ends, flat := scheduleOf("0 1/2 10 0 30 1"), scheduleOf("0 1/2 10 1/4 14 0"), scheduleOf("0 0")
	for _, y := range append(amounts("-1 -1/1000 -5"), ratio.Neg(power(400, -1))) {
		for _, s := range []api.Schedule{rises, ends, flat} {
			inverted.fails(t, s, y, api.ErrNone)
		}
	}
	inverted.check(t, ends, amount("6"), amount("14"), api.OK)
	for _, y := range append(amounts("6001/1000 7 1000000"), power(400, -1)) {
		inverted.fails(t, ends, y, api.ErrNone)
		inverted.fails(t, flat, y, api.ErrNone)
	}
	inverted.fails(t, flat, inverse(power(400, -1)), api.ErrNone)
}

// TestP6_3Long checks amounts that do not fit: there are such amounts, so the error is not ErrNone.
func TestP6_3Long(t *testing.T) {
	slow := schedule(zero, inverse(power(399, 0)))
	inverted.check(t, slow, ratio.Of(1), power(399, 0), api.OK)
	inverted.fails(t, slow, ratio.Of(2), api.ErrRange)
	inverted.fails(t, slow, power(400, -1), api.ErrRange)
	third := scheduleOf("0 3")
	inverted.check(t, third, power(400, -1), ratio.Mul(power(400, -1), amount("1/3")), api.OK)
	inverted.fails(t, third, inverse(power(400, -3)), api.ErrRange)
	// At 8 the value does not fit, nor does any amount beyond with a value that does, apart from a few.
	tiny := inverse(power(300, 1))
	s := schedule(zero, tiny, ratio.Of(4), inverse(power(300, 0)), ratio.Of(8), ratio.Of(1))
	inverted.check(t, s, ratio.Mul(tiny, ratio.Of(3)), ratio.Of(3), api.OK)
	inverted.fails(t, s, ratio.Of(1), api.ErrRange)
}

func TestP6_3Arguments(t *testing.T) {
	for _, s := range []api.Schedule{scheduleOf("0 0"), scheduleOf("0 1/10 100 1/2")} {
		for _, y := range wrong() {
			inverted.fails(t, s, y, api.ErrArg)
		}
		for _, y := range long() {
			inverted.fails(t, s, y, api.ErrRange)
		}
	}
	for _, text := range []string{"0 -1", "0 1 2 -1/1000", "0 -1 2 5", "0 0 1 -1 2 1"} {
		for _, y := range append(append(amounts("0 1 -1"), wrong()...), long()...) {
			inverted.fails(t, scheduleOf(text), y, api.ErrArg)
		}
	}
	negative := schedule(zero, ratio.Neg(power(400, 0)))
	inverted.fails(t, negative, api.Rat{}, api.ErrRange) // it is the schedule's error
}

// inverseBy returns the least amount from 0 on with the value y, and true, if there is one: the value grows evenly between the beginnings of brackets, and beyond the last one.
func inverseBy(s api.Schedule, y *big.Rat) (*big.Rat, bool) {
	if y.Sign() <= 0 {
		return new(big.Rat), y.Sign() == 0
	}
	for place, b := range s.Brackets {
		from := numberOf(b.From)
		end := new(big.Rat).Add(from, big.NewRat(1, 1))
		last := place+1 == len(s.Brackets)
		if !last {
			end = numberOf(s.Brackets[place+1].From)
		}
		low, high := valueBy(s, from), valueBy(s, end)
		if high.Cmp(low) > 0 && (last || high.Cmp(y) >= 0) {
			share := new(big.Rat).Quo(new(big.Rat).Sub(y, low), high.Sub(high, low))
			return from.Add(from, share.Mul(share, end.Sub(end, from))), true
		}
	}
	return nil, false
}

// TestP6_3AnySchedule compares with the model.
func TestP6_3AnySchedule(t *testing.T) {
	r := rand.New(rand.NewPCG(6, 3))
	for range 1500 {
		bits := someBits(r)
		s := someSchedule(r, bits, true)
		values := []api.Rat{zero}
		for _, b := range s.Brackets {
			if v, errno := rate.At(s, b.From); errno == api.OK {
				values = append(values, v)
			}
		}
		for range 8 {
			values = append(values, someAmount(r, bits))
		}
		for _, y := range values {
			want, errno := api.Rat{}, api.ErrNone
			if x, ok := inverseBy(s, numberOf(y)); ok {
				want, errno = expected(x)
			}
			inverted.check(t, s, y, want, errno)
		}
		if t.Failed() {
			t.FailNow()
		}
	}
}

// TestP6_6Inverse checks that the value of what Inverse returns is y, and that lesser amounts have lesser values.
func TestP6_6Inverse(t *testing.T) {
	r := rand.New(rand.NewPCG(66, 3))
	found := 0
	for range 3000 {
		s := someSchedule(r, 20, true)
		y, errno := rate.At(s, someAmount(r, 20))
		if errno != api.OK {
			t.Fatalf("At of %s: %d", written(s), errno)
		}
		x, errno := rate.Inverse(s, y)
		if errno != api.OK || ratio.Sign(x) < 0 {
			t.Fatalf("Inverse of %s for %s: %s, %d", written(s), ratio.Text(y), ratio.Text(x), errno)
		}
		at.check(t, s, x, y, api.OK)
		if ratio.Sign(x) == 0 {
			continue
		}
		found++
		for _, share := range amounts("0 1/2 9/10 999999/1000000") {
			less := ratio.Mul(x, share)
			if v, _ := rate.At(s, less); ratio.Cmp(v, y) >= 0 {
				t.Fatalf("At of %s for %s: %s, but %s has the value %s", written(s), ratio.Text(less), ratio.Text(v), ratio.Text(x), ratio.Text(y))
			}
		}
	}
	if found < 1000 {
		t.Errorf("only %d amounts greater than 0", found)
	}
}
