package date

import (
	"iter"
	"strconv"
	"strings"
)

const (
	// longest is how many bytes a layout has at most.
	longest = 40
	// standard is the layout of Text.
	standard = "YYYY-MM-DD"
)

func Text(n int) string {
	text, _ := Format(standard, n)
	return text
}

func Parse(s string) (int, bool) {
	return Read(standard, s)
}

func Format(layout string, n int) (string, bool) {
	year, month, day, ok := Civil(n)
	if !ok || !isRight(layout) {
		return "", false
	}
	return replaced(layout, civil{year, month, day}.written), true
}

func Read(layout, s string) (int, bool) {
	if !isRight(layout) {
		return 0, false
	}
	d := found(layout, s)
	n, ok := Number(d.year, d.month, d.day)
	// What was found only tells which date it may be: whether s is its text, the text decides.
	if !ok || replaced(layout, d.written) != s {
		return 0, false
	}
	return n, true
}

// civil is a date, or what was found in place of one.
type civil struct{ year, month, day int }

// written returns what Format writes for a part of a layout.
func (d civil) written(part string) string {
	switch part {
	case "YYYY":
		return padded(d.year, 4)
	case "MM", "M":
		return padded(d.month, len(part))
	case "DD", "D":
		return padded(d.day, len(part))
	}
	return part
}

// padded returns the digits of a number, with zeros in front if they are fewer than width.
func padded(number, width int) string {
	digits := strconv.Itoa(number)
	return strings.Repeat("0", max(0, width-len(digits))) + digits
}

// replaced returns the layout with each part as written.
func replaced(layout string, written func(part string) string) string {
	var text strings.Builder
	for part := range parts(layout) {
		text.WriteString(written(part))
	}
	return text.String()
}

// found returns the numbers that are in s where a right layout has its fields.
func found(layout, s string) civil {
	var d civil
	for part := range parts(layout) {
		switch part {
		case "YYYY":
			d.year, s = leading(s, 4)
		case "MM", "M":
			d.month, s = leading(s, 2)
		case "DD", "D":
			d.day, s = leading(s, 2)
		default:
			s = s[min(1, len(s)):]
		}
	}
	return d
}

// leading returns the number of at most so many digits at the beginning of s, and what comes after them.
func leading(s string, most int) (number int, rest string) {
	for ; most > 0 && s != "" && isDigit(s[0]); most-- {
		number = number*10 + int(s[0]-'0')
		s = s[1:]
	}
	return number, s
}

// isRight reports whether a layout is right.
func isRight(layout string) bool {
	if len(layout) > longest {
		return false
	}
	var years, months, days int
	// open tells that the part before was M or D: a digit directly after it would leave open where its number ends.
	open := false
	for part := range parts(layout) {
		isField := true
		switch part {
		case "YYYY":
			years++
		case "MM", "M":
			months++
		case "DD", "D":
			days++
		default:
			isField = false
			if !isPlain(part[0]) {
				return false
			}
		}
		if isField && open {
			return false
		}
		open = part == "M" || part == "D"
	}
	return years == 1 && months == 1 && days == 1
}

// isPlain reports whether a right layout may have a byte outside its fields.
func isPlain(c byte) bool {
	return ' ' <= c && c <= '~' && !isDigit(c) && c != 'Y'
}

func isDigit(c byte) bool {
	return '0' <= c && c <= '9'
}

// parts returns the fields and the other bytes of a layout, in their order.
func parts(layout string) iter.Seq[string] {
	return func(yield func(part string) bool) {
		for rest := layout; rest != ""; {
			width := firstWidth(rest)
			if !yield(rest[:width]) {
				return
			}
			rest = rest[width:]
		}
	}
}

// firstWidth returns how many bytes the first part of a layout has.
func firstWidth(layout string) int {
	switch {
	case strings.HasPrefix(layout, "YYYY"):
		return 4
	case strings.HasPrefix(layout, "MM"), strings.HasPrefix(layout, "DD"):
		return 2
	}
	return 1
}
