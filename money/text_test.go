package money_test

import (
	"math"
	"strconv"
	"strings"
	"testing"

	"tithing/api"
	"tithing/money"
	"tithing/ratio"
)

// checkText checks that so many cents have a text, and that it is read as them.
func checkText(t *testing.T, cents int, want string) {
	t.Helper()
	if text, ok := money.Text(money.Of(cents)); text != want || !ok {
		t.Errorf("Text of %d cents: %q, %t, not %q", cents, text, ok, want)
	}
	if a, ok := money.Parse(want); a != money.Of(cents) || !ok {
		t.Errorf("Parse(%q): %#v, %t", want, a, ok)
	}
}

// checkNoText checks that no amount has this text.
func checkNoText(t *testing.T, s string) {
	t.Helper()
	a, ok := money.Parse(s)
	absent(t, "Parse("+strconv.Quote(s)+")", a, ok)
}

func TestP4_5Text(t *testing.T) {
	for _, x := range []struct {
		cents int
		text  string
	}{
		{0, "$0.00"}, {1, "$0.01"}, {-1, "$-0.01"}, {9, "$0.09"}, {10, "$0.10"}, {-10, "$-0.10"}, {99, "$0.99"}, {-99, "$-0.99"}, {100, "$1.00"}, {-100, "$-1.00"}, {101, "$1.01"}, {110, "$1.10"},
		{999, "$9.99"}, {1000, "$10.00"}, {-1005, "$-10.05"}, {100000, "$1000.00"}, {123456789, "$1234567.89"}, {-123456780, "$-1234567.80"},
		{math.MaxInt, "$92233720368547758.07"}, {math.MaxInt - 7, "$92233720368547758.00"}, {math.MinInt, "$-92233720368547758.08"}, {math.MinInt + 1, "$-92233720368547758.07"},
	} {
		checkText(t, x.cents, x.text)
	}
	for whole := range 200 {
		for rest := range 100 {
			text := strconv.Itoa(whole) + "." + strconv.Itoa(100 + rest)[1:]
			checkText(t, whole*100+rest, "$"+text)
			if whole+rest > 0 {
				checkText(t, -whole*100-rest, "$-"+text)
			}
		}
	}
}

func TestP4_5TextInvalid(t *testing.T) {
	for _, a := range append(wrong(), amounts("1/3 1/200 -1/1000 2305843009213693952/25 -9223372036854775809/100 18446744073709551616")...) {
		if text, ok := money.Text(a); text != "" || ok {
			t.Errorf("Text(%#v): %q, %t", a, text, ok)
		}
	}
}

func TestP4_5ParseInvalid(t *testing.T) {
	for _, s := range []string{
		"", "$", "-", ".", "$-", "$.", "$-.", "$1", "$-1", "$100", "$1.", "$1.5", "$1.505", "$.50", "$-.50", "$.5", "$12.5", "$0.0", "$0.000", "$-0.00", "$-0.0",
		"12.50", "-12.50", "-$12.50", "$$12.50", "12.50$", "$+12.50", "+$12.50", "$--12.50", "$ 12.50", " $12.50", "$12.50 ", "$12.50\n", "$- 12.50", "$12. 50", "$12 .50", "\x00$12.50", "$12.50\x00",
		"$012.50", "$00.50", "$-012.50", "$-00.01", "$12..50", "$1.2.50", "$12.5.0", "$125.0", "$.1250", "$1250.", ".$1250", "$1250", "$12,50", "$1,200.50", "$1_2.50", "$1_200.50", "$0x1.50", "$1e3.00", "$12.5a", "$a.bc", "$1a.50",
		"$12.-5", "$-12.-5", "$12.+5", "$1-2.50", "$12.50-", "€12.50", "$١.٠٠", "$12․50", "$\xff.00",
		"$92233720368547758.08", "$-92233720368547758.09", "$92233720368547759.00", "$184467440737095516.16", "$184467440737095517.16", "$-184467440737095516.17", "$1000000000000000000000000.00", "$1000000000000000000000000",
		"$" + strings.Repeat("9", 1000000) + ".00", "$" + strings.Repeat("0", 1000000) + ".00", strings.Repeat("$", 1000000), "$" + strings.Repeat(".", 1000000), "$" + strings.Repeat("-", 1000000),
	} {
		if a, ok := money.Parse(s); a != (api.Rat{}) || ok {
			t.Errorf("Parse(%.40q): %#v, %t", s, a, ok)
		}
	}
}

// TestP4_5EveryString goes through all strings of up to seven bytes that texts have, beside the digits only 0, 1 and 7: Parse accepts those that are the Text of what it returns, and no other amount has such a text.
func TestP4_5EveryString(t *testing.T) {
	accepted := map[string]api.Rat{}
	var extend func(s string)
	extend = func(s string) {
		if a, ok := money.Parse(s); ok {
			accepted[s] = a
		} else {
			absent(t, "Parse("+s+")", a, ok)
		}
		if len(s) < 7 {
			for _, c := range "$-.017" {
				extend(s + string(c))
			}
		}
	}
	extend("")
	for s, a := range accepted {
		if text, ok := money.Text(a); text != s || !ok {
			t.Errorf("Parse(%q): %s, whose Text is %q, %t", s, ratio.Text(a), text, ok)
		}
	}
	for cents := -100000; cents <= 1000000; cents++ {
		text, _ := money.Text(money.Of(cents))
		if a, ok := accepted[text]; ok != (len(text) <= 7 && !strings.ContainsAny(text, "2345689")) || ok && a != money.Of(cents) {
			t.Fatalf("Parse(%q): %#v, %t", text, a, ok)
		}
	}
}

func TestP4_5ParseUndoesText(t *testing.T) {
	for _, a := range samples() {
		if text, ok := money.Text(a); ok {
			if again, is := money.Parse(text); again != a || !is {
				t.Errorf("Parse(%q): %#v, %t", text, again, is)
			}
		}
	}
}
