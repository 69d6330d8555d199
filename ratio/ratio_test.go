package ratio_test

import (
	"fmt"
	"math"
	"math/big"
	"slices"
	"strconv"
	"strings"
	"testing"

	"tithing/api"
	"tithing/nat"
	"tithing/ratio"
)

// value returns a right number as a number of the library, which the tests compare with.
func value(a api.Rat) *big.Rat {
	num, den := new(big.Int).SetBytes([]byte(a.Num)), new(big.Int).SetBytes([]byte(a.Den))
	if a.Neg {
		num.Neg(num)
	}
	return new(big.Rat).SetFrac(num, den)
}

// number returns the right api.Rat of x.
func number(x *big.Rat) api.Rat {
	return api.Rat{Neg: x.Sign() < 0, Num: api.Nat(x.Num().Bytes()), Den: api.Nat(x.Denom().Bytes())}
}

// parsed returns the right api.Rat of a text that the library reads, such as -6/4.
func parsed(s string) api.Rat {
	x, ok := new(big.Rat).SetString(s)
	if !ok {
		panic("not a number: " + s)
	}
	return number(x)
}

// list returns the right api.Rats of texts between spaces.
func list(s string) []api.Rat {
	var l []api.Rat
	for _, text := range strings.Fields(s) {
		l = append(l, parsed(text))
	}
	return l
}

// wholes returns the right api.Nats of texts between spaces.
func wholes(s string) []api.Nat {
	var l []api.Nat
	for _, a := range list(s) {
		l = append(l, a.Num)
	}
	return l
}

var zero = api.Rat{Den: "\x01"}

// mixed returns a natural number of so many bytes without a pattern, another one for each seed.
func mixed(bytes, seed int) *big.Int {
	b := make([]byte, bytes)
	state := uint64(seed)
	for i := range b {
		state = state*6364136223846793005 + 1442695040888963407
		b[i] = byte(state>>56) | 1
	}
	return new(big.Int).SetBytes(b)
}

// samples returns right numbers of all sizes and both signs.
func samples() []api.Rat {
	l := list(`0 1 2 3 7 100 1/2 1/3 2/3 3/2 5/6 1/100 101/100 12345/100 1/128 255/256 256/255 1/12 5/18
		9223372036854775807 9223372036854775808 18446744073709551615 18446744073709551616 1/18446744073709551615
		1/18446744073709551616 18446744073709551615/18446744073709551616 18446744073709551616/18446744073709551615
		340282366920938463463374607431768211456/3 3/340282366920938463463374607431768211456`)
	for bytes := 1; bytes <= 50; bytes += 7 {
		common := mixed(bytes, 5)
		num, den := mixed(bytes, bytes), new(big.Int).Mul(mixed(bytes, bytes+1), common)
		l = append(l, number(new(big.Rat).SetFrac(num, den)), number(new(big.Rat).SetFrac(den, num)), number(new(big.Rat).SetInt(den)))
	}
	for _, a := range l[1:] {
		l = append(l, api.Rat{Neg: true, Num: a.Num, Den: a.Den})
	}
	return l
}

// wrong returns api.Rats that are not right, for each of the reasons.
func wrong() []api.Rat {
	long := api.Nat(mixed(60, 1).Bytes())
	return []api.Rat{
		{}, {Neg: true}, {Num: "\x01"}, {Num: "\x05", Neg: true}, {Num: long}, // the denominator is 0
		{Num: "\x00", Den: "\x01"}, {Num: "\x00\x05", Den: "\x01"}, {Num: "\x00\x05", Den: "\x03", Neg: true}, {Num: "\x00" + long, Den: "\x01"},
		{Num: "\x01", Den: "\x00"}, {Num: "\x01", Den: "\x00\x01"}, {Num: "\x02", Den: "\x00\x00\x03", Neg: true}, {Num: "\x01", Den: "\x00" + long}, {Den: "\x00\x01"},
		{Num: "\x02", Den: "\x04"}, {Num: "\x06", Den: "\x03"}, {Num: "\x05", Den: "\x05", Neg: true}, {Num: long, Den: long},
		{Num: nat.Mul(long, "\x07"), Den: nat.Mul(long, "\x09")}, {Num: nat.Mul(long, "\x03"), Den: "\x03"}, {Num: "\x03", Den: nat.Mul(long, "\x03")},
		{Den: "\x02"}, {Den: long}, {Neg: true, Den: "\x01"}, {Neg: true, Den: "\x05"}, // 0 with another denominator, or a sign
	}
}

// same checks that got is the number want, as a right api.Rat.
func same(t *testing.T, call string, got api.Rat, want *big.Rat) {
	t.Helper()
	if got != number(want) {
		t.Errorf("%s = %#v, not %s", call, got, want.RatString())
	}
}

// absent checks that a call returns the zero value, and false.
func absent(t *testing.T, call string, got api.Rat, ok bool) {
	t.Helper()
	if got != (api.Rat{}) || ok {
		t.Errorf("%s = %#v, %t", call, got, ok)
	}
}

// pair names a call with two arguments.
func pair(name string, a, b api.Rat) string { return fmt.Sprintf("%s(%#v, %#v)", name, a, b) }

// TestExamples checks each row of the chapter's section 'Examples'.
func TestExamples(t *testing.T) {
	if a, ok := ratio.Make(true, nat.Of(6), nat.Of(4)); a != parsed("-3/2") || !ok {
		t.Errorf("Make(true, 6, 4) = %#v, %t", a, ok)
	}
	a, ok := ratio.Make(false, nat.Of(1), nat.Of(0))
	absent(t, "Make(false, 1, 0)", a, ok)
	if a := ratio.Add(parsed("1/2"), parsed("-1/3")); a != parsed("1/6") {
		t.Errorf("Add(1/2, -1/3) = %#v", a)
	}
	if a, ok := ratio.Quo(parsed("1/2"), parsed("-1/4")); a != parsed("-2") || !ok {
		t.Errorf("Quo(1/2, -1/4) = %#v, %t", a, ok)
	}
	checkCommon(t, list("1/2 1/3 0"), "\x06", wholes("3 2 0"))
	if s := ratio.Text(parsed("-3/2")); s != "-3/2" {
		t.Errorf("Text(-3/2) = %s", s)
	}
	for _, s := range []string{"6/4", "-0", "3/1"} {
		a, ok := ratio.Parse(s)
		absent(t, "Parse("+s+")", a, ok)
	}
}

// TestP2_1Results calls every function with all kinds of arguments: none panics, and what is returned is right, or a zero value with false.
func TestP2_1Results(t *testing.T) {
	right := func(call string, a api.Rat) {
		t.Helper()
		if !ratio.Right(a) || a.Den == "" || value(a).Sign() == 0 && a != zero || a != number(value(a)) {
			t.Errorf("%s = %#v", call, a)
		}
	}
	maybe := func(call string, a api.Rat, ok bool) {
		t.Helper()
		if ok {
			right(call, a)
		} else {
			absent(t, call, a, ok)
		}
	}
	all := append(samples(), wrong()...)
	for _, a := range all {
		ratio.Sign(a)
		right(fmt.Sprintf("Neg(%#v)", a), ratio.Neg(a))
		right(fmt.Sprintf("Sum of %#v", a), ratio.Sum([]api.Rat{a}))
		for _, s := range []string{string(a.Num), "-" + string(a.Den), string(a.Num) + "/" + string(a.Den), ratio.Text(a)} {
			read, ok := ratio.Parse(s)
			maybe(fmt.Sprintf("Parse(%q)", s), read, ok)
		}
		for _, b := range all {
			ratio.Cmp(a, b)
			right(pair("Add", a, b), ratio.Add(a, b))
			right(pair("Sub", a, b), ratio.Sub(a, b))
			right(pair("Mul", a, b), ratio.Mul(a, b))
			right(pair("Sum", a, b), ratio.Sum([]api.Rat{a, b, a}))
			quotient, ok := ratio.Quo(a, b)
			maybe(pair("Quo", a, b), quotient, ok)
			made, ok := ratio.Make(a.Neg, a.Num, b.Den)
			maybe(pair("Make", a, b), made, ok)
			made, ok = ratio.Make(b.Neg, b.Den, a.Num)
			maybe(pair("Make", a, b), made, ok)
		}
	}
}

func TestP2_2Of(t *testing.T) {
	for _, n := range []int{0, 1, -1, 2, -2, 100, 255, 256, -256, 65536, 1 << 56, -(1 << 56), math.MaxInt64, math.MaxInt64 - 1, math.MinInt64 + 1, math.MinInt64} {
		same(t, "Of("+strconv.Itoa(n)+")", ratio.Of(n), new(big.Rat).SetInt64(int64(n)))
	}
	if ratio.Of(0) != zero || ratio.Of(-256) != (api.Rat{Neg: true, Num: "\x01\x00", Den: "\x01"}) {
		t.Errorf("Of(0), Of(-256) = %#v, %#v", ratio.Of(0), ratio.Of(-256))
	}
}

func TestP2_2Make(t *testing.T) {
	for num := range 40 {
		for den := 1; den < 40; den++ {
			for _, neg := range []bool{false, true} {
				want := big.NewRat(int64(num), int64(den))
				if neg {
					want.Neg(want)
				}
				if got, ok := ratio.Make(neg, nat.Of(num), nat.Of(den)); got != number(want) || !ok {
					t.Errorf("Make(%t, %d, %d) = %#v, %t", neg, num, den, got, ok)
				}
			}
		}
	}
	for n := range 30 {
		factor := mixed(1+n%23, n)
		num, den := new(big.Int).Mul(mixed(3*n+1, 1), factor), new(big.Int).Mul(mixed(2*n+5, 2), factor)
		got, ok := ratio.Make(false, api.Nat(num.Bytes()), api.Nat(den.Bytes()))
		same(t, "Make of long numbers", got, new(big.Rat).SetFrac(num, den))
		if !ok {
			t.Errorf("Make of long numbers returns false")
		}
	}
	// 0 has no sign, whatever is asked for.
	for _, neg := range []bool{false, true} {
		if got, ok := ratio.Make(neg, "", "\x07"); got != zero || !ok {
			t.Errorf("Make(%t, 0, 7) = %#v, %t", neg, got, ok)
		}
	}
}

func TestP2_2MakeInvalid(t *testing.T) {
	long := api.Nat(mixed(30, 1).Bytes())
	for _, c := range [][2]api.Nat{
		{"\x01", ""}, {"", ""}, {long, ""}, // the denominator is 0
		{"\x00", "\x01"}, {"\x00\x01", "\x04"}, {"\x00" + long, "\x01"}, {"\x01", "\x00"}, {"\x01", "\x00\x01"}, {"\x01", "\x00" + long}, {"\x00", "\x00"}, {"\x00\x03", ""}, {"", "\x00"},
	} {
		for _, neg := range []bool{false, true} {
			got, ok := ratio.Make(neg, c[0], c[1])
			absent(t, "Make of "+strconv.Quote(string(c[0]))+", "+strconv.Quote(string(c[1])), got, ok)
		}
	}
}

func TestP2_2Right(t *testing.T) {
	for _, a := range samples() {
		if !ratio.Right(a) {
			t.Errorf("Right(%#v) = false", a)
		}
	}
	for _, a := range wrong() {
		if ratio.Right(a) {
			t.Errorf("Right(%#v) = true", a)
		}
	}
	for num := 1; num < 60; num++ {
		for den := 1; den < 60; den++ {
			want := big.NewRat(int64(num), int64(den)).Denom().Int64() == int64(den)
			for _, neg := range []bool{false, true} {
				if ratio.Right(api.Rat{Neg: neg, Num: nat.Of(num), Den: nat.Of(den)}) != want {
					t.Errorf("Right of %d/%d (%t) = %t", num, den, neg, !want)
				}
			}
		}
	}
}

func TestP2_3Sign(t *testing.T) {
	for _, a := range samples() {
		if got := ratio.Sign(a); got != value(a).Sign() {
			t.Errorf("Sign(%#v) = %d", a, got)
		}
	}
	for _, a := range wrong() {
		if got := ratio.Sign(a); got != 0 {
			t.Errorf("Sign(%#v) = %d", a, got)
		}
	}
}

func TestP2_3Cmp(t *testing.T) {
	for _, a := range samples() {
		for _, b := range samples() {
			if got := ratio.Cmp(a, b); got != value(a).Cmp(value(b)) || got != ratio.Sign(ratio.Sub(a, b)) {
				t.Errorf("%s = %d", pair("Cmp", a, b), got)
			}
		}
		for _, b := range wrong() {
			if ratio.Cmp(a, b) != ratio.Sign(a) || ratio.Cmp(b, a) != -ratio.Sign(a) {
				t.Errorf("%s = %d, %d the other way round", pair("Cmp", a, b), ratio.Cmp(a, b), ratio.Cmp(b, a))
			}
		}
	}
	// All that is not right is equal: it counts as 0.
	for _, a := range wrong() {
		for _, b := range wrong() {
			if got := ratio.Cmp(a, b); got != 0 {
				t.Errorf("%s = %d", pair("Cmp", a, b), got)
			}
		}
	}
}

func TestP2_3Neg(t *testing.T) {
	for _, a := range samples() {
		same(t, fmt.Sprintf("Neg(%#v)", a), ratio.Neg(a), new(big.Rat).Neg(value(a)))
	}
	for _, a := range append(wrong(), zero) {
		if got := ratio.Neg(a); got != zero {
			t.Errorf("Neg(%#v) = %#v", a, got)
		}
	}
}

// checkArithmetic compares Add, Sub, Mul and Quo of a and b, which count as x and y, with the library's.
func checkArithmetic(t *testing.T, a, b api.Rat, x, y *big.Rat) {
	t.Helper()
	same(t, pair("Add", a, b), ratio.Add(a, b), new(big.Rat).Add(x, y))
	same(t, pair("Sub", a, b), ratio.Sub(a, b), new(big.Rat).Sub(x, y))
	same(t, pair("Mul", a, b), ratio.Mul(a, b), new(big.Rat).Mul(x, y))
	got, ok := ratio.Quo(a, b)
	if y.Sign() == 0 {
		absent(t, pair("Quo", a, b), got, ok)
		return
	}
	same(t, pair("Quo", a, b), got, new(big.Rat).Quo(x, y))
	if !ok {
		t.Errorf("%s returns false", pair("Quo", a, b))
	}
}

func TestP2_4Arithmetic(t *testing.T) {
	for _, a := range samples() {
		for _, b := range samples() {
			checkArithmetic(t, a, b, value(a), value(b))
		}
	}
}

func TestP2_4SmallNumbers(t *testing.T) {
	var small []api.Rat
	for den := 1; den <= 9; den++ {
		for num := -12; num <= 12; num++ {
			small = append(small, number(big.NewRat(int64(num), int64(den))))
		}
	}
	for _, a := range small {
		for _, b := range small {
			checkArithmetic(t, a, b, value(a), value(b))
		}
	}
}

func TestP2_4WrongArguments(t *testing.T) {
	for _, a := range wrong() {
		for _, b := range samples() {
			checkArithmetic(t, a, b, new(big.Rat), value(b))
			checkArithmetic(t, b, a, value(b), new(big.Rat))
		}
		for _, b := range wrong() {
			checkArithmetic(t, a, b, new(big.Rat), new(big.Rat))
		}
	}
}

func TestP2_4Sum(t *testing.T) {
	for _, c := range []struct{ of, want string }{
		{"", "0"}, {"0", "0"}, {"5/7", "5/7"}, {"-1/2", "-1/2"}, {"1/2 1/3", "5/6"}, {"1/2 1/3 1/6", "1"}, {"1/2 -1/2", "0"}, {"1 2 3 4", "10"}, {"-1/3 -1/3 -1/3 1", "0"},
		{"9223372036854775807 9223372036854775807 2", "18446744073709551616"}, {"1/100 1/100 1/100 1/100 1/100", "1/20"},
	} {
		same(t, "Sum of "+c.of, ratio.Sum(list(c.of)), value(parsed(c.want)))
	}
	if ratio.Sum(nil) != zero || ratio.Sum([]api.Rat{}) != zero {
		t.Errorf("Sum of nothing = %#v", ratio.Sum(nil))
	}
	l, want := samples(), new(big.Rat)
	for n, a := range l {
		same(t, "Sum of the first "+strconv.Itoa(n)+" samples", ratio.Sum(l[:n]), want)
		want.Add(want, value(a))
	}
	same(t, "Sum of all samples", ratio.Sum(l), want)
	// What is not right counts as 0, and all others still count.
	same(t, "Sum of wrong numbers", ratio.Sum(wrong()), new(big.Rat))
	same(t, "Sum of wrong numbers and samples", ratio.Sum(append(append(wrong(), l...), wrong()...)), want)
}

// TestP2_4LongSum sums a long list of numbers with different denominators, whose sums have long ones.
func TestP2_4LongSum(t *testing.T) {
	var l []api.Rat
	want := new(big.Rat)
	for n := int64(1); n <= 1500; n++ {
		x := big.NewRat(1-n%2*2, n)
		l = append(l, number(x))
		want.Add(want, x)
	}
	same(t, "Sum of -1, 1/2, -1/3 ..", ratio.Sum(l), want)
}

// checkCommon checks what Common returns for a list.
func checkCommon(t *testing.T, l []api.Rat, d api.Nat, numbers []api.Nat) {
	t.Helper()
	if gotD, got, ok := ratio.Common(l); gotD != d || !slices.Equal(got, numbers) || !ok {
		t.Errorf("Common(%#v) = %#v, %#v, %t", l, gotD, got, ok)
	}
}

func TestP2_5Common(t *testing.T) {
	for _, c := range []struct{ of, d, wholes string }{
		{"", "1", ""}, {"0", "1", "0"}, {"0 0", "1", "0 0"}, {"7", "1", "7"}, {"1/2", "2", "1"}, {"3/4 3/4", "4", "3 3"}, {"1/4 5/6 2", "12", "3 10 24"}, {"2 5/6 1/4", "12", "24 10 3"},
		{"1/2 1/4 1/8 1/16", "16", "8 4 2 1"}, {"1/7 1/5 0 1/3", "105", "15 21 0 35"}, {"101/100 1/2 1/10", "100", "101 50 10"},
		{"1/18446744073709551616 1", "18446744073709551616", "1 18446744073709551616"}, {"1/18446744073709551616 1/18446744073709551615", "340282366920938463444927863358058659840", "18446744073709551615 18446744073709551616"},
	} {
		checkCommon(t, list(c.of), wholes(c.d)[0], wholes(c.wholes))
	}
	checkCommon(t, nil, "\x01", nil)
}

func TestP2_5CommonOfSamples(t *testing.T) {
	l := samples()
	l = l[:len(l)/2+1] // those that are not negative
	for n := range l {
		d := big.NewInt(1)
		for _, a := range l[:n] {
			den := value(a).Denom()
			d.Mul(d, new(big.Int).Div(den, new(big.Int).GCD(nil, nil, d, den)))
		}
		var want []api.Nat
		for _, a := range l[:n] {
			want = append(want, number(new(big.Rat).Mul(value(a), new(big.Rat).SetInt(d))).Num)
		}
		checkCommon(t, l[:n], api.Nat(d.Bytes()), want)
	}
}

func TestP2_5CommonInvalid(t *testing.T) {
	check := func(l []api.Rat) {
		t.Helper()
		if d, numbers, ok := ratio.Common(l); d != "" || len(numbers) != 0 || ok {
			t.Errorf("Common(%#v) = %#v, %#v, %t", l, d, numbers, ok)
		}
	}
	bad := append(wrong(), list("-1 -1/2 -18446744073709551616/3")...)
	for _, a := range bad {
		check([]api.Rat{a})
		check([]api.Rat{a, parsed("1/2"), zero})
		check([]api.Rat{parsed("1/2"), a, zero})
		check([]api.Rat{parsed("1/2"), zero, a})
		check([]api.Rat{a, a})
	}
}

// texts are numbers as Text writes them.
func texts() []string {
	return []string{
		"0", "1", "-1", "7", "10", "-10", "1/2", "-1/2", "3/2", "-3/2", "1/10", "100/3", "-100/101", "18446744073709551616", "18446744073709551616/3", "-3/18446744073709551616",
		"1000000000000000000000000000001/1000000000000000000000000000000", "-123456789012345678901234567890/11",
	}
}

func TestP2_6Text(t *testing.T) {
	for _, s := range texts() {
		if got := ratio.Text(parsed(s)); got != s {
			t.Errorf("Text of %s = %s", s, got)
		}
	}
	for _, a := range samples() {
		if got := ratio.Text(a); got != value(a).RatString() {
			t.Errorf("Text(%#v) = %s", a, got)
		}
	}
	for _, a := range wrong() {
		if got := ratio.Text(a); got != "0" {
			t.Errorf("Text(%#v) = %s", a, got)
		}
	}
}

func TestP2_6Parse(t *testing.T) {
	for _, s := range texts() {
		if got, ok := ratio.Parse(s); got != parsed(s) || !ok {
			t.Errorf("Parse(%s) = %#v, %t", s, got, ok)
		}
	}
	for num := -30; num <= 30; num++ {
		for den := range 31 {
			s := strconv.Itoa(num) + "/" + strconv.Itoa(den)
			got, ok := ratio.Parse(s)
			if den < 2 || parsed(s).Den != nat.Of(den) {
				absent(t, "Parse("+s+")", got, ok)
			} else if got != parsed(s) || !ok {
				t.Errorf("Parse(%s) = %#v, %t", s, got, ok)
			}
		}
	}
}

func TestP2_6ParseInvalid(t *testing.T) {
	for _, s := range []string{
		"", "-", "/", "-/", "--1", "+1", "-0", "00", "01", "-01", "007/2", "1/02", "3/1", "-3/1", "0/1", "0/2", "-0/2", "1/0", "0/0", "-1/0", "6/4", "-6/4", "5/5", "1/", "/2", "-/2", "1/-2", "1/+2", "-1/-2",
		" 1", "1 ", "1 /2", "1/ 2", "1/2 ", "1/2\n", "1/2/3", "1//2", "1/2/", "/1/2", "1.5", "1e3", "0x1", "1_0", "½", "−1", "1∕2", "a", "1/a", "a/2", "-a", "1-", "1/2-", "\x00", "1\x00", "\xff", "1,2", "1/2\x00",
		"18446744073709551616/18446744073709551618", "18446744073709551616/1", "018446744073709551616", strings.Repeat("9", 60) + "/" + strings.Repeat("3", 60), strings.Repeat("0", 60), "1/" + strings.Repeat("0", 60),
	} {
		got, ok := ratio.Parse(s)
		absent(t, "Parse("+strconv.Quote(s)+")", got, ok)
	}
}

// TestP2_7Field checks the laws of an ordered field.
func TestP2_7Field(t *testing.T) {
	l := list("0 1 -1 2/3 -3/2 7/12 -5/18 18446744073709551616 -1/18446744073709551615 340282366920938463463374607431768211456/255 -12345678901234567890123/98765432109876543210")
	for _, a := range l {
		if ratio.Add(a, zero) != a || ratio.Mul(a, ratio.Of(1)) != a || ratio.Add(a, ratio.Neg(a)) != zero || ratio.Neg(ratio.Neg(a)) != a {
			t.Fatalf("%#v: not neutral, or no opposite", a)
		}
		if inverse, ok := ratio.Quo(ratio.Of(1), a); ok != (a != zero) || ok && ratio.Mul(a, inverse) != ratio.Of(1) {
			t.Fatalf("%#v: the inverse %#v, %t", a, inverse, ok)
		}
		for _, b := range l {
			if ratio.Add(a, b) != ratio.Add(b, a) || ratio.Mul(a, b) != ratio.Mul(b, a) {
				t.Fatalf("%#v and %#v: not commutative", a, b)
			}
			if ratio.Sub(ratio.Add(a, b), b) != a || ratio.Cmp(a, b) != -ratio.Cmp(b, a) {
				t.Fatalf("%#v and %#v: Sub does not undo Add, or the order is none", a, b)
			}
			for _, c := range l {
				checkLaws(t, a, b, c)
			}
		}
	}
}

// checkLaws checks the laws of three numbers.
func checkLaws(t *testing.T, a, b, c api.Rat) {
	t.Helper()
	if ratio.Add(ratio.Add(a, b), c) != ratio.Add(a, ratio.Add(b, c)) || ratio.Mul(ratio.Mul(a, b), c) != ratio.Mul(a, ratio.Mul(b, c)) {
		t.Fatalf("%#v, %#v and %#v: not associative", a, b, c)
	}
	if ratio.Mul(a, ratio.Add(b, c)) != ratio.Add(ratio.Mul(a, b), ratio.Mul(a, c)) {
		t.Fatalf("%#v, %#v and %#v: not distributive", a, b, c)
	}
	if ratio.Cmp(a, b) != ratio.Cmp(ratio.Add(a, c), ratio.Add(b, c)) || ratio.Cmp(ratio.Mul(a, c), ratio.Mul(b, c)) != ratio.Cmp(a, b)*ratio.Sign(c) {
		t.Fatalf("%#v, %#v and %#v: sums or products do not keep the order", a, b, c)
	}
	if ratio.Cmp(a, b) < 0 && ratio.Cmp(b, c) < 0 && ratio.Cmp(a, c) >= 0 {
		t.Fatalf("%#v, %#v and %#v: not transitive", a, b, c)
	}
}

func TestP2_7ParseUndoesText(t *testing.T) {
	for _, a := range samples() {
		if got, ok := ratio.Parse(ratio.Text(a)); got != a || !ok {
			t.Errorf("Parse(Text(%#v)) = %#v, %t", a, got, ok)
		}
	}
}

func TestP2_7CommonAndSum(t *testing.T) {
	l := samples()
	l = l[:len(l)/2+1]
	for n := range l {
		for _, part := range [][]api.Rat{l[:n], l[n:], l[n : n+1]} {
			d, numbers, ok := ratio.Common(part)
			sum := nat.Of(0)
			for _, x := range numbers {
				sum = nat.Add(sum, x)
			}
			if got, made := ratio.Make(false, sum, d); got != ratio.Sum(part) || !ok || !made {
				t.Errorf("the numbers of Common(%#v) yield %#v", part, got)
			}
		}
	}
}

// TestR3 checks that lists are left as they are, and that a result is new memory.
func TestR3(t *testing.T) {
	l := append(list("1/2 5/6 0 3"), wrong()...)
	before := slices.Clone(l)
	ratio.Sum(l)
	ratio.Common(l)
	ratio.Common(l[:4])
	if !slices.Equal(l, before) {
		t.Errorf("the list became %#v", l)
	}
	_, first, _ := ratio.Common(l[:4])
	clear(first[:cap(first)])
	checkCommon(t, l[:4], "\x06", wholes("3 5 0 18"))
}
