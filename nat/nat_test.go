package nat_test

import (
	"fmt"
	"math"
	"math/big"
	"strconv"
	"strings"
	"testing"

	"tithing/api"
	"tithing/nat"
)

// value returns a as a number of the library, which the tests compare with.
func value(a api.Nat) *big.Int { return new(big.Int).SetBytes([]byte(a)) }

// number returns the right api.Nat of x.
func number(x *big.Int) api.Nat { return api.Nat(x.Bytes()) }

// padded returns a with zeros in front: the same value, but not right.
func padded(a api.Nat) api.Nat { return "\x00\x00\x00\x00\x00\x00\x00\x00\x00" + a }

// edges returns all right numbers of up to so many digits to the base 2^64 that are near the least, the middle and the greatest ones.
func edges(digits int) []api.Nat {
	list := []*big.Int{new(big.Int)}
	seen := map[api.Nat]bool{}
	var found []api.Nat
	for range digits {
		var longer []*big.Int
		for _, x := range list {
			for _, digit := range []uint64{0, 1, 1<<63 - 1, 1 << 63, 1<<63 + 1, 1<<64 - 2, 1<<64 - 1} {
				y := new(big.Int).Lsh(x, 64)
				y.Add(y, new(big.Int).SetUint64(digit))
				if longer = append(longer, y); !seen[number(y)] {
					seen[number(y)] = true
					found = append(found, number(y))
				}
			}
		}
		list = longer
	}
	return found
}

// mixed returns a right number of so many bytes without a pattern, another one for each seed.
func mixed(bytes, seed int) api.Nat {
	b := make([]byte, bytes)
	state := uint64(seed)
	for i := range b {
		state = state*6364136223846793005 + 1442695040888963407
		b[i] = byte(state >> 56)
	}
	if bytes > 0 && b[0] == 0 {
		b[0] = 1
	}
	return api.Nat(b)
}

// samples returns right numbers of all sizes that the implementation may treat differently.
func samples() []api.Nat {
	list := append(edges(2), "\x02", "\x03", "\x07", "\xff", "\x01\x00", "\x01\x00\x00\x00\x00")
	for bytes := 1; bytes <= 40; bytes += 3 {
		list = append(list, mixed(bytes, bytes))
	}
	return append(list, mixed(100, 1), mixed(201, 2), "\x01"+api.Nat(strings.Repeat("\x00", 60)), api.Nat(strings.Repeat("\xff", 64)))
}

func TestP1_1Right(t *testing.T) {
	for a, want := range map[api.Nat]bool{"": true, "\x01": true, "\xff\x00": true, "0": true, "\x00": false, "\x00\x00": false, "\x00\x01": false} {
		if nat.Right(a) != want {
			t.Errorf("Right(%q) = %t", a, !want)
		}
	}
	for _, a := range samples() {
		if !nat.Right(a) || nat.Right("\x00"+a) {
			t.Errorf("Right(%q), Right of it with a zero in front = %t, %t", a, nat.Right(a), nat.Right("\x00"+a))
		}
	}
}

func TestP1_1Of(t *testing.T) {
	for n, want := range map[int]api.Nat{
		0: "", 1: "\x01", 255: "\xff", 256: "\x01\x00", 65536: "\x01\x00\x00", -1: "", -256: "", math.MinInt64: "",
		1<<56 - 1: "\xff\xff\xff\xff\xff\xff\xff", 1 << 56: "\x01\x00\x00\x00\x00\x00\x00\x00", math.MaxInt64: "\x7f\xff\xff\xff\xff\xff\xff\xff",
	} {
		if got := nat.Of(n); got != want {
			t.Errorf("Of(%d) = %q", n, got)
		}
	}
}

func TestP1_1Int(t *testing.T) {
	for a, want := range map[api.Nat]int{
		"": 0, "\x00": 0, "\x00\x01\x00": 256, "\x07": 7, "\x7f\xff\xff\xff\xff\xff\xff\xff": math.MaxInt64,
		"\x00\x00\x7f\xff\xff\xff\xff\xff\xff\xfe": math.MaxInt64 - 1,
	} {
		if n, ok := nat.Int(a); n != want || !ok {
			t.Errorf("Int(%q) = %d, %t", a, n, ok)
		}
	}
	for _, a := range []api.Nat{"\x80\x00\x00\x00\x00\x00\x00\x00", "\xff\xff\xff\xff\xff\xff\xff\xff", "\x01\x00\x00\x00\x00\x00\x00\x00\x00", "\x00\x01\x00\x00\x00\x00\x00\x00\x00\x05", mixed(100, 1)} {
		if n, ok := nat.Int(a); n != 0 || ok {
			t.Errorf("Int(%q) = %d, %t", a, n, ok)
		}
	}
	for _, n := range []int{0, 1, 255, 256, 1 << 31, 1 << 32, 1<<56 + 1, math.MaxInt64} {
		if got, ok := nat.Int(nat.Of(n)); got != n || !ok {
			t.Errorf("Int(Of(%d)) = %d, %t", n, got, ok)
		}
	}
}

// checkSums compares Cmp, Add, Sub and Mul of a and b with the library's.
func checkSums(t *testing.T, a, b api.Nat) {
	t.Helper()
	x, y := value(a), value(b)
	if got := nat.Cmp(a, b); got != x.Cmp(y) {
		t.Errorf("Cmp(%q, %q) = %d", a, b, got)
	}
	if got := nat.Add(a, b); got != number(new(big.Int).Add(x, y)) {
		t.Errorf("Add(%q, %q) = %q", a, b, got)
	}
	if got := nat.Mul(a, b); got != number(new(big.Int).Mul(x, y)) {
		t.Errorf("Mul(%q, %q) = %q", a, b, got)
	}
	var want api.Nat
	if x.Cmp(y) >= 0 {
		want = number(new(big.Int).Sub(x, y))
	}
	if got, ok := nat.Sub(a, b); got != want || ok != (x.Cmp(y) >= 0) {
		t.Errorf("Sub(%q, %q) = %q, %t", a, b, got, ok)
	}
}

func TestP1_2SmallNumbers(t *testing.T) {
	for a := range 300 {
		for b := range 300 {
			x, y := nat.Of(a), nat.Of(b)
			if nat.Add(x, y) != nat.Of(a+b) || nat.Mul(x, y) != nat.Of(a*b) {
				t.Fatalf("%d and %d: sum %q, product %q", a, b, nat.Add(x, y), nat.Mul(x, y))
			}
			if d, ok := nat.Sub(x, y); d != nat.Of(a-b) || ok != (a >= b) {
				t.Fatalf("Sub(%d, %d) = %q, %t", a, b, d, ok)
			}
			if c := nat.Cmp(x, y); c > 1 || c < -1 || (c > 0) != (a > b) || (c < 0) != (a < b) {
				t.Fatalf("Cmp(%d, %d) = %d", a, b, c)
			}
		}
	}
}

func TestP1_2AgainstLibrary(t *testing.T) {
	list := samples()
	for _, a := range list {
		for _, b := range list {
			checkSums(t, a, b)
		}
	}
}

func TestP1_2NotRight(t *testing.T) {
	list := append(edges(1), mixed(9, 1), mixed(30, 2))
	for _, a := range list {
		for _, b := range list {
			checkSums(t, padded(a), b)
			checkSums(t, a, padded(b))
			checkSums(t, padded(a), "\x00"+b)
		}
	}
	if nat.Cmp("\x00\x05", "\x05") != 0 || nat.Cmp("\x00\x00", "") != 0 || nat.Cmp("\x00\x01", "\x00\x00\x00") != 1 || nat.Cmp("\x00\x00\x05", "\x06") != -1 {
		t.Error("Cmp does not compare values")
	}
}

func TestP1_2Examples(t *testing.T) {
	if d, ok := nat.Sub(nat.Of(3), nat.Of(5)); d != "" || ok {
		t.Errorf("Sub(3, 5) = %q, %t", d, ok)
	}
	if d, ok := nat.Sub(nat.Of(5), nat.Of(3)); d != nat.Of(2) || !ok {
		t.Errorf("Sub(5, 3) = %q, %t", d, ok)
	}
}

// checkQuotient compares Quo of a and b with the library's.
func checkQuotient(t *testing.T, a, b api.Nat) {
	t.Helper()
	q, r, ok := nat.Quo(a, b)
	if value(b).Sign() == 0 {
		if q != "" || r != "" || ok {
			t.Errorf("Quo(%q, %q) = %q, %q, %t", a, b, q, r, ok)
		}
		return
	}
	wantQ, wantR := new(big.Int).QuoRem(value(a), value(b), new(big.Int))
	if q != number(wantQ) || r != number(wantR) || !ok {
		t.Errorf("Quo(%q, %q) = %q, %q, %t", a, b, q, r, ok)
	}
}

func TestP1_3Quo(t *testing.T) {
	if q, r, ok := nat.Quo(nat.Of(1000), nat.Of(7)); q != nat.Of(142) || r != nat.Of(6) || !ok {
		t.Errorf("Quo(1000, 7) = %q, %q, %t", q, r, ok)
	}
	list := samples()
	for _, a := range list {
		for _, b := range list {
			checkQuotient(t, a, b)
		}
		checkQuotient(t, padded(a), "\x00\x07")
		checkQuotient(t, "\x00"+a, padded(mixed(11, 3)))
		checkQuotient(t, a, "")
		checkQuotient(t, a, "\x00\x00\x00\x00\x00\x00\x00\x00\x00\x00")
	}
}

// TestP1_3QuoDigits divides numbers whose digits, to the base 2^64 and to lesser ones, are estimated too high.
func TestP1_3QuoDigits(t *testing.T) {
	for _, b := range edges(3) {
		for _, q := range []api.Nat{"\x01", "\x7f\xff\xff\xff\xff\xff\xff\xff", "\x80\x00\x00\x00\x00\x00\x00\x01", "\xff\xff\xff\xff\xff\xff\xff\xff\xff\xff\xff\xff\xff\xff\xff\xfe", "\xff\xff\xff\xff\xff\xff\xff\xff\x00\x00\x00\x00\x00\x00\x00\x00\xff\xff\xff\xff\xff\xff\xff\xff"} {
			product := nat.Mul(b, q)
			checkQuotient(t, product, b)
			checkQuotient(t, nat.Add(product, "\x01"), b)
			if less, ok := nat.Sub(product, "\x01"); ok {
				checkQuotient(t, less, b)
			}
		}
	}
	for _, a := range edges(3) {
		for _, b := range edges(2) {
			checkQuotient(t, a+"\x00\x00\x00\x00\x00\x00\x00\x00", b)
			checkQuotient(t, a, b+"\xff\xff\xff\xff")
		}
	}
}

// checkGcd compares Gcd of a and b with the library's.
func checkGcd(t *testing.T, a, b api.Nat) {
	t.Helper()
	if got := nat.Gcd(a, b); got != number(new(big.Int).GCD(nil, nil, value(a), value(b))) {
		t.Errorf("Gcd(%q, %q) = %q", a, b, got)
	}
}

func TestP1_3Gcd(t *testing.T) {
	for _, c := range [][3]int{{12, 18, 6}, {18, 12, 6}, {0, 5, 5}, {5, 0, 5}, {0, 0, 0}, {1, 1, 1}, {7, 13, 1}, {1 << 40, 1 << 20, 1 << 20}, {math.MaxInt64, 49, 49}} {
		if got := nat.Gcd(nat.Of(c[0]), nat.Of(c[1])); got != nat.Of(c[2]) {
			t.Errorf("Gcd(%d, %d) = %q", c[0], c[1], got)
		}
	}
	list := samples()
	for _, a := range list {
		for _, b := range list {
			checkGcd(t, a, b)
		}
		checkGcd(t, padded(a), "\x00\x0c")
		checkGcd(t, "\x00", padded(a))
		checkGcd(t, a, "\x00\x00")
	}
}

func TestP1_3GcdOfLongNumbers(t *testing.T) {
	for n := range 60 {
		factor := mixed(n%23, n)
		a, b := nat.Mul(mixed(3*n+1, 1), factor), nat.Mul(mixed(3*n+5, 2), factor)
		checkGcd(t, a, b)
		checkGcd(t, nat.Mul(a, b), b)
		checkGcd(t, nat.Mul(a, a), nat.Mul(a, b))
	}
	// Neighbours among the Fibonacci numbers take the most steps.
	a, b := nat.Of(1), nat.Of(1)
	for range 1000 {
		a, b = b, nat.Add(a, b)
		if nat.Gcd(a, b) != nat.Of(1) {
			t.Fatalf("Gcd(%s, %s) = %s", nat.Text(a), nat.Text(b), nat.Text(nat.Gcd(a, b)))
		}
	}
}

func TestP1_4Bits(t *testing.T) {
	for a, want := range map[api.Nat]int{"": 0, "\x00\x00": 0, "\x01": 1, "\x02": 2, "\x03": 2, "\x7f": 7, "\x80": 8, "\xff": 8, "\x01\x00": 9, "\x00\x00\x01\x00": 9, "\x00\xff": 8} {
		if got := nat.Bits(a); got != want {
			t.Errorf("Bits(%q) = %d", a, got)
		}
	}
	for _, a := range samples() {
		if want := value(a).BitLen(); nat.Bits(a) != want || nat.Bits(padded(a)) != want {
			t.Errorf("Bits(%q) = %d, %d", a, nat.Bits(a), nat.Bits(padded(a)))
		}
	}
}

// checkPower compares Pow of a, e and m with the library's.
func checkPower(t *testing.T, a, e, m api.Nat) {
	t.Helper()
	var want api.Nat
	if value(m).Sign() != 0 {
		want = number(new(big.Int).Exp(value(a), value(e), value(m)))
	}
	if got, ok := nat.Pow(a, e, m); got != want || ok != (value(m).Sign() != 0) {
		t.Errorf("Pow(%q, %q, %q) = %q, %t", a, e, m, got, ok)
	}
}

func TestP1_4PowSmall(t *testing.T) {
	for m := 1; m <= 34; m++ {
		for a := range 40 {
			want := 1 % m
			for e := range 25 {
				if got, ok := nat.Pow(nat.Of(a), nat.Of(e), nat.Of(m)); got != nat.Of(want) || !ok {
					t.Fatalf("Pow(%d, %d, %d) = %q, %t", a, e, m, got, ok)
				}
				want = want * a % m
			}
		}
	}
	if got, ok := nat.Pow(nat.Of(3), nat.Of(200), nat.Of(1000)); got != nat.Of(1) || !ok {
		t.Errorf("Pow(3, 200, 1000) = %q, %t", got, ok)
	}
}

func TestP1_4PowZeros(t *testing.T) {
	for _, zero := range []api.Nat{"", "\x00", "\x00\x00\x00\x00\x00\x00\x00\x00\x00"} {
		for _, a := range []api.Nat{"", "\x05", mixed(30, 1)} {
			for _, e := range []api.Nat{"", "\x05", mixed(30, 2)} {
				if got, ok := nat.Pow(a, e, zero); got != "" || ok {
					t.Errorf("Pow(%q, %q, %q) = %q, %t", a, e, zero, got, ok)
				}
				if got, ok := nat.Pow(a, e, zero+"\x01"); got != "" || !ok {
					t.Errorf("Pow(%q, %q, 1) = %q, %t", a, e, got, ok)
				}
			}
			for _, m := range []api.Nat{"\x02", "\x07", mixed(30, 3), mixed(31, 4)} {
				if got, ok := nat.Pow(a, zero, m); got != "\x01" || !ok {
					t.Errorf("Pow(%q, 0, %q) = %q, %t", a, m, got, ok)
				}
			}
		}
	}
}

func TestP1_4PowOddAndEvenModuli(t *testing.T) {
	bases := []api.Nat{"", "\x01", "\x02", "\xff\xff\xff\xff\xff\xff\xff\xff", mixed(16, 5), mixed(40, 6)}
	exponents := []api.Nat{"", "\x01", "\x02", "\x03", "\x80", "\x01\x00\x01", mixed(9, 7), "\x00\x00\x05"}
	for _, m := range append(edges(2), mixed(40, 8)+"\x01", mixed(40, 8)+"\x02", "\x00\x00"+mixed(20, 9)+"\x0f") {
		for _, a := range append(bases, m, nat.Add(m, "\x01"), nat.Mul(m, m), padded(m)) {
			for _, e := range exponents {
				checkPower(t, a, e, m)
			}
		}
	}
}

func TestP1_4PowLong(t *testing.T) {
	for n := range 12 {
		m := mixed(20*n+3, n)
		checkPower(t, mixed(25*n, n+1), mixed(5*n, n+2), m)
		checkPower(t, mixed(25*n, n+1), mixed(5*n, n+2), nat.Add(m, "\x01"))
	}
}

func TestP1_5Text(t *testing.T) {
	for a, want := range map[api.Nat]string{"": "0", "\x00\x00": "0", "\x07": "7", "\x00\x07": "7", "\x01\x00\x00": "65536", "\x0d\xe0\xb6\xb3\xa7\x63\xff\xff": "999999999999999999", "\x0d\xe0\xb6\xb3\xa7\x64\x00\x00": "1000000000000000000", "\xff\xff\xff\xff\xff\xff\xff\xff": "18446744073709551615"} {
		if got := nat.Text(a); got != want {
			t.Errorf("Text(%q) = %s", a, got)
		}
	}
	for n := range 2000 {
		if got := nat.Text(nat.Of(n)); got != strconv.Itoa(n) {
			t.Errorf("Text(%d) = %s", n, got)
		}
	}
	for _, a := range samples() {
		if want := value(a).String(); nat.Text(a) != want || nat.Text(padded(a)) != want {
			t.Errorf("Text(%q) = %s, %s", a, nat.Text(a), nat.Text(padded(a)))
		}
	}
}

// checkText checks that s is the Text of the number that Parse returns.
func checkText(t *testing.T, s string) {
	t.Helper()
	want, _ := new(big.Int).SetString(s, 10)
	if got, ok := nat.Parse(s); got != number(want) || !ok || nat.Text(got) != s {
		t.Errorf("Parse(%s) = %q, %t", s, got, ok)
	}
}

func TestP1_5Parse(t *testing.T) {
	for n := range 2000 {
		checkText(t, strconv.Itoa(n))
	}
	for _, a := range samples() {
		checkText(t, value(a).String())
	}
	for n := range 100 {
		checkText(t, "1"+strings.Repeat("0", n))
		checkText(t, strings.Repeat("9", n+1))
		checkText(t, "7"+strings.Repeat("0", n)+"3")
		checkText(t, "123456789"+strings.Repeat("0", n)+"987654321")
	}
}

func TestP1_5ParseInvalid(t *testing.T) {
	long := strings.Repeat("1234567890", 6)
	for _, s := range []string{
		"", "00", "007", "01", "-1", "-0", "+1", "1a", "a1", "a", "0x1", "1_0", "1.0", "1e3", " 1", "1 ", "1\n", "1\x00", "\x00", "٣", "１", "1,000", "/", ":", "\xff",
		"0" + long, "-" + long, long + "-", long + "x" + long, "x" + long, long + " ", strings.Repeat("0", 40),
	} {
		if a, ok := nat.Parse(s); a != "" || ok {
			t.Errorf("Parse(%q) = %q, %t", s, a, ok)
		}
	}
	for c := range 256 {
		digit := '0' <= c && c <= '9'
		for _, s := range []string{"1" + string([]byte{byte(c)}), "1" + string([]byte{byte(c)}) + "1", long + string([]byte{byte(c)})} {
			if _, ok := nat.Parse(s); ok != digit {
				t.Errorf("Parse(%q) = %t", s, ok)
			}
		}
	}
}

func TestP1_6SumsAndProducts(t *testing.T) {
	list := append(edges(1), mixed(3, 1), mixed(8, 2), mixed(9, 3), mixed(17, 4), mixed(50, 5), mixed(64, 6), "\x00\x09")
	for _, a := range list {
		for _, b := range list {
			if nat.Add(a, b) != nat.Add(b, a) || nat.Mul(a, b) != nat.Mul(b, a) {
				t.Fatalf("%q and %q: not commutative", a, b)
			}
			if back, ok := nat.Sub(nat.Add(a, b), b); nat.Cmp(back, a) != 0 || !ok {
				t.Fatalf("Sub does not undo Add of %q and %q: %q, %t", a, b, back, ok)
			}
			for _, c := range list {
				if nat.Add(nat.Add(a, b), c) != nat.Add(a, nat.Add(b, c)) || nat.Mul(nat.Mul(a, b), c) != nat.Mul(a, nat.Mul(b, c)) {
					t.Fatalf("%q, %q and %q: not associative", a, b, c)
				}
				if nat.Mul(a, nat.Add(b, c)) != nat.Add(nat.Mul(a, b), nat.Mul(a, c)) {
					t.Fatalf("%q, %q and %q: not distributive", a, b, c)
				}
			}
		}
	}
}

func TestP1_6QuotientsAndBits(t *testing.T) {
	list := samples()
	for _, a := range list {
		for _, b := range list {
			if b == "" {
				continue
			}
			q, r, ok := nat.Quo(a, b)
			if !ok || nat.Cmp(r, b) >= 0 || nat.Add(nat.Mul(b, q), r) != a {
				t.Fatalf("Quo(%q, %q) = %q, %q, %t", a, b, q, r, ok)
			}
			if less := nat.Bits(a) + nat.Bits(b) - nat.Bits(nat.Mul(a, b)); a != "" && less != 0 && less != 1 {
				t.Fatalf("Bits of the product of %q and %q: %d less", a, b, less)
			}
		}
	}
}

func TestP1_6Powers(t *testing.T) {
	exponents := []api.Nat{"", "\x01", "\x02", "\x07", mixed(4, 1), mixed(12, 2)}
	for _, m := range append(edges(1)[1:], "\x02", "\x03", mixed(16, 3), mixed(17, 4), mixed(33, 5)) {
		for _, a := range []api.Nat{"", "\x01", "\x03", mixed(8, 6), mixed(40, 7)} {
			for _, d := range exponents {
				for _, e := range exponents {
					x, _ := nat.Pow(a, d, m)
					y, _ := nat.Pow(a, e, m)
					_, want, _ := nat.Quo(nat.Mul(x, y), m)
					if got, ok := nat.Pow(a, nat.Add(d, e), m); got != want || !ok {
						t.Fatalf("Pow(%q, %q + %q, %q) = %q, %t", a, d, e, m, got, ok)
					}
				}
			}
		}
	}
}

// TestP1 calls every function with all kinds of strings: none panics, and all numbers that are returned are right.
func TestP1(t *testing.T) {
	list := []api.Nat{"", "\x00", "\x00\x00\x00\x00\x00\x00\x00\x00\x00\x00\x00\x00\x00\x00\x00\x00\x00", "0", "-1", "\x00abc", "\xff", padded("\x01"), padded(mixed(8, 1)), padded(mixed(16, 2)), padded(mixed(24, 3)), mixed(24, 3) + "\x00\x00\x00\x00\x00\x00\x00\x00", "\x01" + padded("")}
	check := func(name string, results ...api.Nat) {
		for _, r := range results {
			if !nat.Right(r) {
				t.Errorf("%s returns %q", name, r)
			}
		}
	}
	for _, a := range list {
		nat.Int(a)
		nat.Bits(a)
		parsed, _ := nat.Parse(string(a))
		again, ok := nat.Parse(nat.Text(a))
		if nat.Cmp(again, a) != 0 || !ok {
			t.Errorf("Parse(Text(%q)) = %q, %t", a, again, ok)
		}
		for _, b := range list {
			difference, _ := nat.Sub(a, b)
			q, r, _ := nat.Quo(a, b)
			name := fmt.Sprintf("a function of %q and %q", a, b)
			check(name, parsed, again, nat.Add(a, b), nat.Mul(a, b), nat.Gcd(a, b), difference, q, r)
			for _, m := range list {
				power, _ := nat.Pow(a, b, m)
				check(name, power)
			}
		}
	}
}
