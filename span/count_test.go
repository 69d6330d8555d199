package span_test

import (
	"math"
	"math/rand/v2"
	"testing"

	"tithing/api"
	"tithing/span"
)

// checkCount checks the end of a term; -1 stands for none.
func checkCount(t *testing.T, l []api.Span, from, n, want int) {
	t.Helper()
	ends := want >= 0
	if d, ok := span.Count(l, from, n); ok != ends || d != max(0, want) {
		t.Errorf("Count of %v, from %d, of %d days: %d, %v, not %d", l, from, n, d, ok, want)
	}
}

func TestP5_4Count(t *testing.T) {
	for _, x := range []struct {
		l             []api.Span
		from, n, want int
	}{
		{spans(10, 20), 8, 0, 8}, {spans(10, 20), 8, 1, 9}, {spans(10, 20), 8, 2, 10}, {spans(10, 20), 8, 3, 21}, // the chapter's example
		{spans(10, 20), 10, 0, 10}, {spans(10, 20), 10, 1, 21}, {spans(10, 20), 12, 0, 12}, {spans(10, 20), 12, 1, 21}, {spans(10, 20), 19, 1, 21}, {spans(10, 20), 20, 1, 21}, {spans(10, 20), 25, 5, 30},
		{nil, 0, 0, 0}, {nil, 0, 1, 1}, {nil, 5, 30, 35}, {spans(), 5, 30, 35}, {spans(0, 5), 0, 1, 6}, {spans(0, 5), 0, 0, 0}, {spans(3, 5, 4, 4), 3, 1, 6},
		{spans(10, 20, 15, 30), 9, 1, 10}, {spans(10, 20, 15, 30), 9, 2, 31}, {spans(15, 30, 10, 20), 9, 3, 32}, {spans(12, 14, 10, 20), 9, 2, 21}, // days that two spans have rest once
		{spans(10, 12, 14, 15, 20, 30), 9, 3, 14}, {spans(20, 30, 14, 15, 10, 12), 9, 4, 16}, {spans(20, 30, 14, 15, 10, 12), 9, 8, 20}, {spans(20, 30, 14, 15, 10, 12), 9, 9, 31},
		{spans(9, 3, 6, 6, -1, 9, 0, most+1), 5, 3, 8}, {wrong(4), 4, 5, 9},
	} {
		checkCount(t, x.l, x.from, x.n, x.want)
	}
}

func TestP5_4NoSuchDay(t *testing.T) {
	all := spans(0, most)
	for _, x := range []struct {
		l             []api.Span
		from, n, want int
	}{
		{nil, api.MaxDay, 0, api.MaxDay}, {nil, api.MaxDay, 1, -1}, {nil, api.MaxDay - 1, 1, api.MaxDay}, {nil, api.MaxDay - 1, 2, -1}, {nil, 0, api.MaxDay, api.MaxDay}, {nil, 0, api.MaxDay + 1, -1}, {nil, 1, api.MaxDay, -1},
		{all, 0, 0, 0}, {all, 0, 1, -1}, {all, api.MaxDay, 0, api.MaxDay}, {all, api.MaxDay, 1, -1}, {all, 5, math.MaxInt, -1},
		// The last day can rest, without a term that ends on it ending later.
		{spans(api.MaxDay, most), api.MaxDay - 1, 1, api.MaxDay}, {spans(api.MaxDay, most), api.MaxDay, 0, api.MaxDay}, {spans(api.MaxDay, most), api.MaxDay - 1, 2, -1},
		{spans(api.MaxDay-1, api.MaxDay), api.MaxDay - 2, 1, api.MaxDay - 1}, {spans(api.MaxDay-1, api.MaxDay), api.MaxDay - 2, 2, -1}, {spans(api.MaxDay-2, api.MaxDay-1), api.MaxDay - 3, 2, api.MaxDay},
		{nil, 5, math.MaxInt, -1}, {nil, api.MaxDay, math.MaxInt, -1}, {spans(7, 9), 0, math.MaxInt, -1}, {nil, 0, -1, -1}, {nil, 5, -1, -1}, {nil, 5, math.MinInt, -1}, {all, 5, -1, -1}, {nil, api.MaxDay, math.MinInt, -1},
	} {
		checkCount(t, x.l, x.from, x.n, x.want)
	}
	for _, from := range noDays {
		for _, n := range []int{0, 1, -1, 30, api.MaxDay, math.MaxInt, math.MinInt, -from, -from + 5} {
			checkCount(t, nil, from, n, -1)
			checkCount(t, all, from, n, -1)
			checkCount(t, wrong(3), from, n, -1)
		}
	}
}

// counted returns the end of a term, day by day, or -1.
func counted(days set, from, n int) int {
	for day := from; day <= api.MaxDay; day++ {
		if n == 0 {
			return day
		}
		if !days[day] {
			n--
		}
	}
	return -1
}

// TestP5_4AnyLists compares with the model.
func TestP5_4AnyLists(t *testing.T) {
	r := rand.New(rand.NewPCG(5, 4))
	for range 5000 {
		base := []int{0, 1000, most - 22, most - 12}[r.IntN(4)]
		l := someSpans(r, base)
		days := setOf(l)
		for from := base; from < min(base+22, most); from++ {
			n := r.IntN(25)
			checkCount(t, l, from, n, counted(days, from, n))
		}
		if t.Failed() {
			t.FailNow()
		}
	}
}

// end returns the end of a term, or a number after all days.
func end(l []api.Span, from, n int) int {
	d, ok := span.Count(l, from, n)
	if !ok {
		return math.MaxInt
	}
	return d
}

func TestP5_8Terms(t *testing.T) {
	r := rand.New(rand.NewPCG(5, 8))
	for range 20000 {
		base := []int{0, 1000, most - 24}[r.IntN(3)]
		l, more := someSpans(r, base), someSpans(r, base)
		from, m, n := base+r.IntN(24), r.IntN(15), r.IntN(15)
		first := end(l, from, m)
		if got, want := end(l, first, n), end(l, from, m+n); got != want {
			t.Fatalf("%v, from %d, %d and %d days: %d, not %d", l, from, m, n, got, want)
		}
		if end(l, from+n, m) < first || end(l, from, m+n) < first || end(span.Union(l, more), from, m) < first || end(append(more, l...), from, m) < first {
			t.Fatalf("%v and %v, from %d, %d and %d days: a term ends earlier", l, more, from, m, n)
		}
	}
}
