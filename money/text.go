package money

import (
	"strconv"
	"strings"

	"tithing/api"
	"tithing/nat"
)

func Text(a api.Rat) (string, bool) {
	cents, ok := Cents(a)
	if !ok {
		return "", false
	}
	return written(cents), true
}

func Parse(s string) (api.Rat, bool) {
	// What is read only tells which amount it may be: whether s is its text, the text decides.
	digits := strings.Replace(strings.TrimPrefix(s, "$"), ".", "", 1)
	cents, err := strconv.Atoi(digits)
	if err != nil || written(cents) != s {
		return api.Rat{}, false
	}
	return Of(cents), true
}

// written returns the text of an amount of so many cents.
func written(cents int) string {
	digits := nat.Text(unsigned(cents))
	digits = strings.Repeat("0", max(0, 3-len(digits))) + digits
	sign := ""
	if cents < 0 {
		sign = "-"
	}
	point := len(digits) - 2
	return "$" + sign + digits[:point] + "." + digits[point:]
}
