package date_test

import (
	"math"
	"testing"
	"time"

	"tithing/api"
	"tithing/date"
)

// extremes are arguments that no date has.
var extremes = []int{math.MinInt, math.MinInt + 1, math.MinInt32, -1000000, -1, api.MaxDay + 1, 1 << 40, math.MaxInt - api.MaxDay, math.MaxInt - 1, math.MaxInt}

// library returns a date of the library, which the tests compare with.
func library(year, month, day int) time.Time {
	return time.Date(year, time.Month(month), day, 0, 0, 0, 0, time.UTC)
}

// number returns the number of a date that there is.
func number(t *testing.T, year, month, day int) int {
	t.Helper()
	n, ok := date.Number(year, month, day)
	if !ok {
		t.Fatalf("Number(%d, %d, %d): false", year, month, day)
	}
	return n
}

// TestExamples checks the rows of the chapter's section 'Examples', apart from those of layouts.
func TestExamples(t *testing.T) {
	for _, x := range []struct {
		year, month, day, n int
		ok                  bool
	}{{1, 1, 1, 0, true}, {1, 12, 31, 364, true}, {2, 1, 1, 365, true}, {2000, 2, 29, 730178, true}, {1900, 2, 29, 0, false}} {
		if n, ok := date.Number(x.year, x.month, x.day); n != x.n || ok != x.ok {
			t.Errorf("Number(%d, %d, %d): %d, %v", x.year, x.month, x.day, n, ok)
		}
	}
	if year, month, day, ok := date.Civil(3652058); year != 9999 || month != 12 || day != 31 || !ok {
		t.Errorf("Civil(3652058): %d, %d, %d, %v", year, month, day, ok)
	}
	if w, ok := date.Weekday(3652058); w != 5 || !ok {
		t.Errorf("Weekday(3652058): %d, %v", w, ok)
	}
	n := number(t, 2024, 1, 31)
	for _, x := range []struct {
		months int
		want   string
	}{{1, "2024-02-29"}, {13, "2025-02-28"}, {-1, "2023-12-31"}} {
		if later, ok := date.Months(n, x.months); date.Text(later) != x.want || !ok {
			t.Errorf("Months of 2024-01-31 by %d: %s, %v", x.months, date.Text(later), ok)
		}
	}
}

// TestP3_1EveryDate goes through all years, months and days, and some that there are not, in their order.
func TestP3_1EveryDate(t *testing.T) {
	next := 0
	for year := -1; year <= 10001; year++ {
		for month := 0; month <= 13; month++ {
			for day := 0; day <= 32; day++ {
				x := library(year, month, day)
				exists := 1 <= year && year <= 9999 && x.Year() == year && int(x.Month()) == month && x.Day() == day
				n, ok := date.Number(year, month, day)
				if ok != exists || date.Valid(year, month, day) != exists {
					t.Fatalf("%d, %d, %d: Number %v, Valid %v", year, month, day, ok, date.Valid(year, month, day))
				}
				if !exists {
					if n != 0 {
						t.Fatalf("Number(%d, %d, %d): %d, false", year, month, day, n)
					}
					continue
				}
				if n != next {
					t.Fatalf("Number(%d, %d, %d): %d, want %d", year, month, day, n, next)
				}
				if y, m, d, ok := date.Civil(n); y != year || m != month || d != day || !ok {
					t.Fatalf("Civil(%d): %d, %d, %d, %v, want %d, %d, %d", n, y, m, d, ok, year, month, day)
				}
				next++
			}
		}
	}
	if next != api.MaxDay+1 {
		t.Errorf("%d dates", next)
	}
}

func TestP3_1LeapYears(t *testing.T) {
	for year, leap := range map[int]bool{4: true, 100: false, 400: true, 1582: false, 1600: true, 1700: false, 1900: false, 1996: true, 2000: true, 2001: false, 2100: false, 9996: true, 9999: false} {
		if date.Valid(year, 2, 29) != leap || date.Valid(year, 2, 30) || !date.Valid(year, 2, 28) {
			t.Errorf("29 February of %d: %v", year, date.Valid(year, 2, 29))
		}
	}
}

func TestP3_1NoDates(t *testing.T) {
	for _, x := range extremes {
		for _, d := range [][3]int{{x, 1, 1}, {2000, x, 1}, {2000, 1, x}, {x, x, x}} {
			if n, ok := date.Number(d[0], d[1], d[2]); n != 0 || ok || date.Valid(d[0], d[1], d[2]) {
				t.Errorf("Number(%d, %d, %d): %d, %v", d[0], d[1], d[2], n, ok)
			}
		}
		if year, month, day, ok := date.Civil(x); year != 0 || month != 0 || day != 0 || ok {
			t.Errorf("Civil(%d): %d, %d, %d, %v", x, year, month, day, ok)
		}
	}
}

func TestP3_2Weekday(t *testing.T) {
	for n := range api.MaxDay + 1 {
		if w, ok := date.Weekday(n); w != n%7+1 || !ok {
			t.Fatalf("Weekday(%d): %d, %v", n, w, ok)
		}
	}
	for year := 1; year <= 9999; year += 7 {
		x := library(year, 5, 17)
		if w, _ := date.Weekday(number(t, year, 5, 17)); w%7 != int(x.Weekday()) {
			t.Errorf("weekday of %s: %d", x, w)
		}
	}
	for _, x := range extremes {
		if w, ok := date.Weekday(x); w != 0 || ok {
			t.Errorf("Weekday(%d): %d, %v", x, w, ok)
		}
	}
}

func TestP3_2Add(t *testing.T) {
	for _, x := range []struct {
		n, days, sum int
		ok           bool
	}{
		{0, 0, 0, true}, {0, 1, 1, true}, {10, -3, 7, true}, {10, -10, 0, true}, {10, -11, 0, false},
		{0, api.MaxDay, api.MaxDay, true}, {1, api.MaxDay, 0, false}, {0, api.MaxDay + 1, 0, false},
		{api.MaxDay, 0, api.MaxDay, true}, {api.MaxDay, 1, 0, false}, {api.MaxDay, -api.MaxDay, 0, true}, {api.MaxDay, -api.MaxDay - 1, 0, false},
		{-1, 1, 0, false}, {-1, 0, 0, false}, {-5, 100, 0, false}, {api.MaxDay + 1, -1, 0, false}, {api.MaxDay + 1, 0, 0, false},
		{0, math.MaxInt, 0, false}, {api.MaxDay, math.MaxInt, 0, false}, {0, math.MinInt, 0, false}, {api.MaxDay, math.MinInt, 0, false},
		{math.MinInt, math.MinInt, 0, false}, {math.MaxInt, -math.MaxInt, 0, false}, {math.MinInt, math.MaxInt, 0, false}, {math.MaxInt, math.MaxInt, 0, false},
	} {
		if sum, ok := date.Add(x.n, x.days); sum != x.sum || ok != x.ok {
			t.Errorf("Add(%d, %d): %d, %v", x.n, x.days, sum, ok)
		}
	}
}

// monthAfter returns the month before (step -1) or after (step 1) a month, or false at the calendar's ends.
func monthAfter(year, month, step int) (int, int, bool) {
	month += step
	switch month {
	case 0:
		year, month = year-1, 12
	case 13:
		year, month = year+1, 1
	}
	return year, month, 1 <= year && year <= 9999
}

// TestP3_2Months compares with a calendar that is turned month by month, with each day of the first month.
func TestP3_2Months(t *testing.T) {
	for _, start := range [][2]int{{1, 1}, {1, 12}, {1, 2}, {1900, 2}, {2000, 2}, {2023, 12}, {2024, 1}, {2024, 4}, {9996, 2}, {9999, 1}, {9999, 12}} {
		for _, step := range []int{-1, 1} {
			year, month, ok := start[0], start[1], true
			for count := 0; count < 60; count++ {
				last := 28
				for ok && library(year, month, last+1).Day() == last+1 {
					last++
				}
				for day := 1; date.Valid(start[0], start[1], day); day++ {
					n, wanted := number(t, start[0], start[1], day), 0
					if ok {
						wanted = number(t, year, month, min(day, last))
					}
					if later, fine := date.Months(n, count*step); later != wanted || fine != ok {
						t.Fatalf("Months of %s by %d: %d, %v, want %d, %v", date.Text(n), count*step, later, fine, wanted, ok)
					}
				}
				if ok {
					year, month, ok = monthAfter(year, month, step)
				}
			}
		}
	}
}

func TestP3_2MonthsAtTheEnds(t *testing.T) {
	n := number(t, 2024, 1, 31)
	for _, x := range []struct {
		n, months int
		want      string
	}{
		{n, 0, "2024-01-31"}, {n, -24276, "0001-01-31"}, {n, -24277, ""}, {n, 95711, "9999-12-31"}, {n, 95712, ""},
		{0, 119987, "9999-12-01"}, {0, 119988, ""}, {0, -1, ""}, {api.MaxDay, -119987, "0001-01-31"}, {api.MaxDay, -119988, ""}, {api.MaxDay, 1, ""},
		{n, math.MaxInt, ""}, {n, math.MinInt, ""}, {0, math.MaxInt, ""}, {0, math.MinInt, ""}, {api.MaxDay, math.MaxInt, ""}, {api.MaxDay, math.MinInt, ""},
		{n, math.MaxInt32, ""}, {n, math.MinInt32, ""}, {-1, 1, ""}, {-1, 0, ""}, {api.MaxDay + 1, 0, ""}, {api.MaxDay + 1, -12, ""}, {math.MinInt, math.MaxInt, ""}, {math.MaxInt, math.MinInt, ""},
	} {
		later, ok := date.Months(x.n, x.months)
		if ok != (x.want != "") || ok && date.Text(later) != x.want || !ok && later != 0 {
			t.Errorf("Months(%d, %d): %d (%s), %v", x.n, x.months, later, date.Text(later), ok)
		}
	}
}

// TestP3_5Months checks what undoes months.
func TestP3_5Months(t *testing.T) {
	for n := 0; n <= api.MaxDay; n += 997 {
		_, month, day, _ := date.Civil(n)
		for _, months := range []int{1, 11, 12, 13, 100, 1200, 4800, -1, -12, -25} {
			later, ok := date.Months(n, months)
			if !ok {
				continue
			}
			if back, ok := date.Months(later, -months); day <= 28 && (back != n || !ok) {
				t.Fatalf("%s by %d and back: %s, %v", date.Text(n), months, date.Text(back), ok)
			}
			if _, m, d, _ := date.Civil(later); months%12 == 0 && (m != month || d != day && !(month == 2 && day == 29)) {
				t.Fatalf("%s by %d: %s", date.Text(n), months, date.Text(later))
			}
		}
	}
}

func TestP3_5NextDateAndWeek(t *testing.T) {
	for n := 0; n < api.MaxDay; n += 13 {
		year, month, day, _ := date.Civil(n)
		x := library(year, month, day+1)
		if next := number(t, x.Year(), int(x.Month()), x.Day()); next != n+1 {
			t.Fatalf("after %d: %d", n, next)
		}
		now, _ := date.Weekday(n)
		week, ok := date.Add(n, 7)
		if then, _ := date.Weekday(week); ok && then != now {
			t.Fatalf("weekday of %d: %d, later %d", n, now, then)
		}
	}
}
