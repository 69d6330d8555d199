package nat

import "strconv"

// Decimal digits are read and written in groups: the greatest power of ten whose double is less than 2^64 is that of one group.
const (
	groupDigits = 18
	groupBase   = 1_000_000_000_000_000_000
)

// decimal returns the decimal text of x; it uses the memory of x.
func decimal(x digits) string {
	var groups []uint64
	for len(x) > 1 {
		groups = append(groups, divideByWord(x, groupBase))
		x = x.trimmed()
	}
	var first uint64
	if len(x) == 1 {
		first = x[0]
	}
	text := strconv.AppendUint(nil, first, 10)
	for i := len(groups) - 1; i >= 0; i-- {
		// The leading 1 keeps the zeros in front of the group.
		text = append(text, strconv.FormatUint(groupBase+groups[i], 10)[1:]...)
	}
	return string(text)
}

// isDecimal reports whether s is a number in decimal, without zeros in front.
func isDecimal(s string) bool {
	if s == "" || s[0] == '0' && s != "0" {
		return false
	}
	for i := range len(s) {
		if s[i] < '0' || s[i] > '9' {
			return false
		}
	}
	return true
}

// digitsOfDecimal returns the digits of a number in decimal.
func digitsOfDecimal(s string) digits {
	var x digits
	for s != "" {
		n := (len(s)-1)%groupDigits + 1 // only the first group may be short
		var group uint64
		for i := range n {
			group = 10*group + uint64(s[i]-'0')
		}
		x = multiplyByWord(x, groupBase, group)
		s = s[n:]
	}
	return x
}
