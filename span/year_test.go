package span_test

import (
	"math"
	"testing"
	"time"

	"tithing/api"
	"tithing/date"
	"tithing/span"
)

func TestP5_5Year(t *testing.T) {
	for _, x := range []struct{ period, from, to int }{{0, 730119, 730485}, {1, 730485, 730850}, {4, 731580, 731946}, {19, 737059, 737424}} {
		if s, ok := span.Year(x.period); s != (api.Span{From: x.from, To: x.to}) || !ok {
			t.Errorf("Year(%d): %v, %v", x.period, s, ok)
		}
	}
	for _, period := range []int{math.MinInt, math.MinInt + 1, -api.FirstYear - 1, -api.FirstYear, -1999, -2, -1, 20, 21, 366, 2000, 7998, 7999, 8000, 730119, math.MaxInt - api.FirstYear, math.MaxInt - 1999, math.MaxInt - 1, math.MaxInt} {
		if s, ok := span.Year(period); s != (api.Span{}) || ok {
			t.Errorf("Year(%d): %v, %v", period, s, ok)
		}
	}
}

// TestP5_5EveryDay goes through all days there are.
func TestP5_5EveryDay(t *testing.T) {
	for day := range api.MaxDay + 1 {
		year, _, _, _ := date.Civil(day)
		want, has := year-2000, 2000 <= year && year <= 2019
		if !has {
			want = 0
		}
		if period, ok := span.Period(day); period != want || ok != has {
			t.Fatalf("Period(%d): %d, %v, not %d, %v", day, period, ok, want, has)
		}
	}
	for _, day := range append([]int{730118, 737424}, noDays...) {
		if period, ok := span.Period(day); period != 0 || ok {
			t.Errorf("Period(%d): %d, %v", day, period, ok)
		}
	}
}

// TestP5_9Years compares with the library's calendar.
func TestP5_9Years(t *testing.T) {
	next := 730119
	for period := range api.MaxPeriods {
		s, ok := span.Year(period)
		length := time.Date(2000+period, time.December, 31, 0, 0, 0, 0, time.UTC).YearDay()
		if !ok || !span.Right(s) || s.From != next || s.To-s.From != length || length != 365 && length != 366 {
			t.Errorf("Year(%d): %v, %v, of %d days", period, s, ok, length)
		}
		if year, month, day, _ := date.Civil(s.From); year != 2000+period || month != 1 || day != 1 {
			t.Errorf("Year(%d) begins on %s", period, date.Text(s.From))
		}
		for day := s.From; day < s.To; day++ {
			if p, ok := span.Period(day); p != period || !ok {
				t.Errorf("Period(%d): %d, %v, not %d", day, p, ok, period)
			}
		}
		next = s.To
	}
}
