package span_test

import (
	"maps"
	"math"
	"math/rand/v2"
	"slices"
	"testing"

	"tithing/api"
	"tithing/span"
)

// most is the greatest To of a right span.
const most = api.MaxDay + 1

// outside are numbers that are bounds of no right span.
var outside = []int{math.MinInt, math.MinInt + 1, math.MinInt32, -api.MaxDay, -2, -1, most + 1, most + 2, 1 << 40, math.MaxInt - 1, math.MaxInt}

// noDays are numbers that are no days.
var noDays = append([]int{most}, outside...)

// bases are the first days of the few days in which most tests take place: the first and the last ones there are, and others.
var bases = []int{0, 730119, most - 7}

// spans returns the spans with these bounds, two for each.
func spans(bounds ...int) []api.Span {
	var l []api.Span
	for place := 0; place+1 < len(bounds); place += 2 {
		l = append(l, api.Span{From: bounds[place], To: bounds[place+1]})
	}
	return l
}

// wrong returns spans that are not right, for each of the reasons; most of them would have the days from base to base + 6 otherwise.
func wrong(base int) []api.Span {
	l := spans(base, base, base+3, base+3, base+7, base, base+1, base, -1, base+7, base, most+1, -1, most, 0, most+1, -1, -1, most, most, most, most+1, most+1, most, -5, -1, 0, 0)
	for _, x := range outside {
		l = append(l, spans(x, base+3, base+3, x, x, x)...)
	}
	return l
}

// set is a set of days: the model with which the tests compare.
type set map[int]bool

// setOf returns the days of a list, one by one.
func setOf(l []api.Span) set {
	days := set{}
	for _, s := range l {
		if s.From < 0 || s.To > most {
			continue
		}
		for day := s.From; day < s.To; day++ {
			days[day] = true
		}
	}
	return days
}

// list returns the normal list of the days.
func (days set) list() []api.Span {
	var l []api.Span
	for _, day := range slices.Sorted(maps.Keys(days)) {
		if !days[day-1] {
			l = append(l, api.Span{From: day})
		}
		l[len(l)-1].To = day + 1
	}
	return l
}

// where returns the days for which keeps is true.
func (days set) where(keeps func(day int) bool) set {
	kept := set{}
	for day := range days {
		if keeps(day) {
			kept[day] = true
		}
	}
	return kept
}

func or(a, b set) set {
	all := maps.Clone(a)
	maps.Copy(all, b)
	return all
}

func and(a, b set) set {
	return a.where(func(day int) bool { return b[day] })
}

func without(a, b set) set {
	return a.where(func(day int) bool { return !b[day] })
}

// someSpans returns up to 5 spans, right ones and others, with bounds from near the base on.
func someSpans(r *rand.Rand, base int) []api.Span {
	l := make([]api.Span, r.IntN(6))
	for place := range l {
		l[place] = api.Span{From: base - 2 + r.IntN(24), To: base - 2 + r.IntN(24)}
		if r.IntN(8) == 0 {
			l[place].To = outside[r.IntN(len(outside))]
		}
	}
	return l
}

// subsets returns lists with all sets of the 7 days from base on, and these sets. The spans of a list have a day each, in falling order,
// and are among spans that are not right.
func subsets(base int) ([][]api.Span, []set) {
	var lists [][]api.Span
	var sets []set
	for bits := range 1 << 7 {
		l, days := slices.Clone(wrong(base)), set{}
		for day := base + 6; day >= base; day-- {
			if bits>>(day-base)&1 == 1 {
				l, days[day] = append(l, api.Span{From: day, To: day + 1}), true
			}
		}
		lists, sets = append(lists, append(l, wrong(base)...)), append(sets, days)
	}
	return lists, sets
}

// check checks a list.
func check(t *testing.T, call string, got, want []api.Span) {
	t.Helper()
	if !slices.Equal(got, want) {
		t.Errorf("%s: %v, %d in all, not %v, %d in all", call, got[:min(20, len(got))], len(got), want[:min(20, len(want))], len(want))
	}
}

// checkCombined checks the results of all functions that return lists.
func checkCombined(t *testing.T, a, b []api.Span, inA, inB set) {
	t.Helper()
	check(t, "Norm", span.Norm(a), inA.list())
	check(t, "Union", span.Union(a, b), or(inA, inB).list())
	check(t, "Meet", span.Meet(a, b), and(inA, inB).list())
	check(t, "Less", span.Less(a, b), without(inA, inB).list())
	if t.Failed() {
		t.Fatalf("of %v and %v", a, b)
	}
}

// TestExamples checks the rows of the chapter's section 'Examples', apart from those of terms and years.
func TestExamples(t *testing.T) {
	check(t, "Norm", span.Norm(spans(10, 20, 5, 10, 30, 30, 25, 26)), spans(5, 20, 25, 26))
	check(t, "Meet", span.Meet(spans(0, 10, 20, 30), spans(5, 25)), spans(5, 10, 20, 25))
	check(t, "Less", span.Less(spans(0, 10), spans(3, 5)), spans(0, 3, 5, 10))
}

func TestP5_1Right(t *testing.T) {
	for _, s := range spans(0, 1, 0, 2, 0, most, 1, most, 730119, 730485, api.MaxDay-1, api.MaxDay, api.MaxDay-1, most, api.MaxDay, most) {
		if !span.Right(s) {
			t.Errorf("Right of %v: false", s)
		}
	}
	for _, base := range bases {
		for _, s := range wrong(base) {
			if span.Right(s) {
				t.Errorf("Right of %v: true", s)
			}
		}
	}
	for _, x := range outside {
		for _, y := range append([]int{0, 1, api.MaxDay, most}, outside...) {
			if span.Right(api.Span{From: x, To: y}) || span.Right(api.Span{From: y, To: x}) {
				t.Errorf("Right of %d to %d, or of %d to %d: true", x, y, y, x)
			}
		}
	}
}

func TestP5_1Norm(t *testing.T) {
	for _, x := range []struct{ l, want []api.Span }{
		{nil, nil}, {spans(), nil}, {spans(3, 5), spans(3, 5)}, {spans(3, 5, 3, 5, 3, 5), spans(3, 5)}, {spans(3, 5, 7, 9), spans(3, 5, 7, 9)}, {spans(7, 9, 3, 5), spans(3, 5, 7, 9)},
		{spans(3, 5, 5, 9), spans(3, 9)}, {spans(5, 9, 3, 5), spans(3, 9)}, {spans(3, 6, 5, 9), spans(3, 9)}, {spans(3, 5, 6, 9), spans(3, 5, 6, 9)}, // they touch, overlap, or leave a day
		{spans(3, 9, 4, 5), spans(3, 9)}, {spans(4, 5, 3, 9, 6, 7), spans(3, 9)}, {spans(3, 9, 3, 4, 8, 9), spans(3, 9)}, {spans(3, 9, 4, 6, 5, 12, 20, 21), spans(3, 12, 20, 21)}, // one in another
		{spans(0, most), spans(0, most)}, {spans(0, 1, api.MaxDay, most), spans(0, 1, api.MaxDay, most)}, {spans(1, most, 0, 1), spans(0, most)}, {spans(0, most, 5, 6, 0, 1, api.MaxDay, most), spans(0, most)},
		{spans(1, 2, 4, 3, -1, 5), spans(1, 2)}, {spans(0, most+1, -1, most, 3, 4), spans(3, 4)}, {spans(9, 1, 3, 3), nil}, {wrong(0), nil}, {wrong(most - 7), nil},
		{spans(4, 5, 2, 3, 0, 1), spans(0, 1, 2, 3, 4, 5)}, {spans(4, 5, 2, 3, 0, 1, 3, 4, 1, 2), spans(0, 5)},
	} {
		check(t, "Norm", span.Norm(x.l), x.want)
		check(t, "Norm of what is normal", span.Norm(x.want), x.want)
	}
}

// TestP5_2AllSets combines all sets of a few days.
func TestP5_2AllSets(t *testing.T) {
	for _, base := range bases {
		lists, sets := subsets(base)
		for i := range lists {
			for j := range lists {
				checkCombined(t, lists[i], lists[j], sets[i], sets[j])
			}
		}
	}
}

// TestP5_2AnyLists combines lists of spans of all kinds.
func TestP5_2AnyLists(t *testing.T) {
	r := rand.New(rand.NewPCG(5, 2))
	for range 30000 {
		base := []int{0, 1000, most - 12, most - 24}[r.IntN(4)]
		a, b := someSpans(r, base), someSpans(r, base)
		checkCombined(t, a, b, setOf(a), setOf(b))
	}
}

// TestP5_2Ends combines lists with the first day, the last one, and all.
func TestP5_2Ends(t *testing.T) {
	all, ends := spans(0, most), spans(api.MaxDay, most, 0, 1)
	check(t, "Union", span.Union(all, ends), all)
	check(t, "Union", span.Union(ends, spans(1, api.MaxDay)), all)
	check(t, "Meet", span.Meet(all, ends), spans(0, 1, api.MaxDay, most))
	check(t, "Less", span.Less(all, ends), spans(1, api.MaxDay))
	check(t, "Less", span.Less(ends, all), nil)
	check(t, "Less", span.Less(all, all), nil)
	check(t, "Less", span.Less(all, nil), all)
	check(t, "Less", span.Less(nil, all), nil)
	check(t, "Meet", span.Meet(all, nil), nil)
	check(t, "Meet", span.Meet(spans(0, 5), spans(5, 9)), nil)
	check(t, "Union", span.Union(spans(0, 5), spans(5, 9)), spans(0, 9))
	check(t, "Union", span.Union(nil, nil), nil)
	check(t, "Meet", span.Meet(nil, nil), nil)
	check(t, "Less", span.Less(nil, nil), nil)
	for _, base := range bases {
		check(t, "Union", span.Union(wrong(base), all), all)
		check(t, "Meet", span.Meet(all, wrong(base)), nil)
		check(t, "Less", span.Less(all, wrong(base)), all)
	}
}

// TestP5_2Long combines long lists: every second day, and the days between them.
func TestP5_2Long(t *testing.T) {
	var even, odd []api.Span
	for day := 399998; day >= 0; day -= 2 {
		even, odd = append(even, api.Span{From: day, To: day + 1}), append(odd, api.Span{From: day + 1, To: day + 2})
	}
	check(t, "Union", span.Union(even, odd), spans(0, 400000))
	check(t, "Meet", span.Meet(even, odd), nil)
	if n := len(span.Less(even, odd)); n != 200000 {
		t.Errorf("Less: %d spans", n)
	}
	check(t, "Less", span.Less(spans(0, 400000), even), span.Norm(odd))
	if d, ok := span.Count(even, 0, 200000); d != 400000 || !ok {
		t.Errorf("Count: %d, %v", d, ok)
	}
}

func TestP5_3Has(t *testing.T) {
	for _, x := range []struct {
		l    []api.Span
		days []int
	}{
		{spans(3, 5), []int{3, 4}}, {spans(7, 9, 3, 5), []int{3, 4, 7, 8}}, {spans(3, 6, 5, 8), []int{3, 4, 5, 6, 7}}, {spans(0, 1), []int{0}}, {spans(4, 4, 5, 3, -2, 3, 0, most+1), nil}, {nil, nil},
	} {
		for day := -3; day < 12; day++ {
			if got := span.Has(x.l, day); got != slices.Contains(x.days, day) {
				t.Errorf("Has of %v and %d: %v", x.l, day, got)
			}
		}
	}
	all := spans(0, most)
	if !span.Has(all, 0) || !span.Has(all, 730119) || !span.Has(all, api.MaxDay) || span.Has(spans(1, api.MaxDay), 0) || span.Has(spans(1, api.MaxDay), api.MaxDay) {
		t.Error("Has at the first or the last day")
	}
	for _, day := range noDays {
		for _, l := range [][]api.Span{all, wrong(0), wrong(730119), spans(day, day+1), spans(math.MinInt, math.MaxInt), spans(day-1, day+1, 0, most)} {
			if span.Has(l, day) {
				t.Errorf("Has of %v and %d: true", l, day)
			}
		}
	}
}

func TestP5_3Days(t *testing.T) {
	for _, x := range []struct {
		l    []api.Span
		want int
	}{
		{nil, 0}, {spans(3, 5), 2}, {spans(3, 5, 3, 5), 2}, {spans(0, 10, 5, 12, 20, 21), 13}, {spans(20, 21, 5, 12, 0, 10, 6, 7), 13}, {spans(3, 5, 5, 9), 6}, {spans(0, most), api.MaxDay + 1},
		{spans(0, most, 0, most, 3, 5), api.MaxDay + 1}, {spans(0, 1, api.MaxDay, most), 2}, {wrong(0), 0}, {wrong(most - 7), 0}, {append(wrong(3), spans(4, 8)...), 4},
	} {
		if got := span.Days(x.l); got != x.want {
			t.Errorf("Days of %v: %d, not %d", x.l, got, x.want)
		}
	}
}

// TestP5_3AnyLists compares Has and Days with the model.
func TestP5_3AnyLists(t *testing.T) {
	r := rand.New(rand.NewPCG(5, 3))
	for range 5000 {
		base := []int{0, 1000, most - 12}[r.IntN(3)]
		l := someSpans(r, base)
		days := setOf(l)
		if got := span.Days(l); got != len(days) {
			t.Fatalf("Days of %v: %d, not %d", l, got, len(days))
		}
		for day := base - 4; day < base+26; day++ {
			if got := span.Has(l, day); got != days[day] {
				t.Fatalf("Has of %v and %d: %v", l, day, got)
			}
		}
	}
}

// TestP5_6Order shuffles spans, exchanges lists, and does everything once more.
func TestP5_6Order(t *testing.T) {
	r := rand.New(rand.NewPCG(5, 6))
	for range 5000 {
		a, b := someSpans(r, 100), someSpans(r, 100)
		union, meet := span.Union(a, b), span.Meet(a, b)
		for _, l := range [][]api.Span{a, b} {
			r.Shuffle(len(l), func(i, j int) { l[i], l[j] = l[j], l[i] })
		}
		check(t, "Union in another order", span.Union(b, a), union)
		check(t, "Meet in another order", span.Meet(b, a), meet)
		for _, again := range [][]api.Span{a, b, union} {
			check(t, "Union once more", span.Union(union, again), union)
		}
		check(t, "Union with Meet", span.Union(union, meet), union)
		for _, again := range [][]api.Span{a, b, meet, union} {
			check(t, "Meet once more", span.Meet(meet, again), meet)
		}
		less := span.Less(a, b)
		check(t, "Meet of Less and Meet", span.Meet(less, meet), nil)
		check(t, "Union of Less and Meet", span.Union(less, meet), span.Norm(a))
		if span.Days(less)+span.Days(meet) != span.Days(a) {
			t.Errorf("Days of Less and Meet: %d, %d, not %d together", span.Days(less), span.Days(meet), span.Days(a))
		}
		if t.Failed() {
			t.Fatalf("of %v and %v", a, b)
		}
	}
}

func TestP5_7Days(t *testing.T) {
	r := rand.New(rand.NewPCG(5, 7))
	for range 5000 {
		a, b := someSpans(r, 0), someSpans(r, 0)
		if got, want := span.Days(span.Union(a, b))+span.Days(span.Meet(a, b)), span.Days(a)+span.Days(b); got != want {
			t.Fatalf("%v and %v: %d, not %d", a, b, got, want)
		}
	}
}

// TestOwnership checks R3: arguments are not modified, not even behind their ends, and share no memory with results.
func TestOwnership(t *testing.T) {
	calls := []func(a, b []api.Span) []api.Span{span.Union, span.Meet, span.Less, func(a, b []api.Span) []api.Span { return span.Norm(a) }}
	for place, call := range calls {
		for _, bounds := range [][]int{{0, 10, 20, 30, 99, 100}, {20, 30, 0, 10, 99, 100}, {0, 30, 5, 9, 99, 100}, {9, 3, 0, 10, 99, 100}} {
			a, b := spans(bounds...), spans(append(bounds, 5, 25)...)
			keptA, keptB := slices.Clone(a), slices.Clone(b)
			made := call(a[:2], b[:len(b)-2])
			kept := slices.Clone(made)
			made = append(made, api.Span{From: 7, To: 8})
			for at := range made {
				made[at] = api.Span{From: -7, To: -7}
			}
			span.Has(a, 5)
			span.Days(a)
			span.Count(a, 5, 5)
			if !slices.Equal(a, keptA) || !slices.Equal(b, keptB) {
				t.Errorf("call %d of %v: arguments are modified", place, bounds)
			}
			made = call(a[:2], b[:len(b)-2])
			clear(a)
			clear(b)
			if !slices.Equal(made, kept) {
				t.Errorf("call %d of %v: %v, not %v", place, bounds, made, kept)
			}
		}
	}
}
