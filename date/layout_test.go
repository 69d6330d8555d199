package date_test

import (
	"fmt"
	"regexp"
	"strings"
	"testing"
	"time"

	"tithing/api"
	"tithing/date"
)

// TestExamplesOfLayouts checks the rows of the chapter's section 'Examples' that are about layouts.
func TestExamplesOfLayouts(t *testing.T) {
	if s, ok := date.Format("D.M.YYYY", 730178); s != "29.2.2000" || !ok {
		t.Errorf("Format: %q, %v", s, ok)
	}
	if n, ok := date.Read("D.M.YYYY", "29.2.2000"); n != 730178 || !ok {
		t.Errorf("Read: %d, %v", n, ok)
	}
	if n, ok := date.Read("D.M.YYYY", "29.02.2000"); n != 0 || ok {
		t.Errorf("Read with a zero: %d, %v", n, ok)
	}
	if s, ok := date.Format("DMYYYY", 0); s != "" || ok {
		t.Errorf("Format without a separator: %q, %v", s, ok)
	}
}

func TestP3_3Text(t *testing.T) {
	for n := 0; n <= api.MaxDay; n += 31 {
		year, month, day, _ := date.Civil(n)
		want := library(year, month, day).Format(time.DateOnly)
		if got := date.Text(n); got != want {
			t.Fatalf("Text(%d): %q, want %q", n, got, want)
		}
		if back, ok := date.Parse(want); back != n || !ok {
			t.Fatalf("Parse(%q): %d, %v", want, back, ok)
		}
		if formatted, ok := date.Format("YYYY-MM-DD", n); formatted != want || !ok { // P3.5
			t.Fatalf("Format of %d: %q, %v", n, formatted, ok)
		}
	}
	for _, x := range []struct {
		n    int
		text string
	}{{0, "0001-01-01"}, {364, "0001-12-31"}, {730178, "2000-02-29"}, {api.MaxDay, "9999-12-31"}} {
		if got := date.Text(x.n); got != x.text {
			t.Errorf("Text(%d): %q", x.n, got)
		}
	}
	for _, x := range extremes {
		if got := date.Text(x); got != "" {
			t.Errorf("Text(%d): %q", x, got)
		}
	}
}

func TestP3_3ParseOfOtherTexts(t *testing.T) {
	for _, s := range []string{
		"", "-", "--", "2024", "2024-01", "2024-01-", "2024-1-31", "2024-01-1", "24-01-31", "2024-01-32", "2024-02-30", "2023-02-29", "2024-00-10", "2024-13-10", "2024-01-00",
		"0000-01-01", "10000-01-01", "02024-01-31", "2024-01-31 ", " 2024-01-31", "2024-01-310", "2024-01-031", "2024/01/31", "2024-01/31", "20240131", "2024-01-31\x00",
		"+024-01-31", "-024-01-31", "2024-+1-31", "2024-01--1", "２０２４-01-31", "2024-0١-31", "YYYY-MM-DD", strings.Repeat("2", 1<<16), "2024-01-31" + strings.Repeat("0", 1<<16),
	} {
		if n, ok := date.Parse(s); n != 0 || ok {
			t.Errorf("Parse(%.40q): %d, %v", s, n, ok)
		}
	}
}

// TestP3_3ParseOfChangedTexts puts each byte into each place of a text: what is parsed is what has this text.
func TestP3_3ParseOfChangedTexts(t *testing.T) {
	const text = "2024-02-29"
	for place := range len(text) {
		for c := range 256 {
			s := text[:place] + string([]byte{byte(c)}) + text[place+1:]
			x, err := time.Parse(time.DateOnly, s)
			exists := err == nil && x.Year() >= 1
			n, ok := date.Parse(s)
			if ok != exists || ok && date.Text(n) != s || !ok && n != 0 {
				t.Errorf("Parse(%q): %d, %v", s, n, ok)
			}
		}
	}
}

var (
	layoutParts = regexp.MustCompile(`(?s)YYYY|MM|M|DD|D|.`)
	layoutField = regexp.MustCompile(`^(YYYY|MM|M|DD|D)$`)
)

// rightLayout tells by the chapter's words whether a layout of letters and punctuation is right.
func rightLayout(layout string) bool {
	count := map[string]int{}
	before := ""
	for _, part := range layoutParts.FindAllString(layout, -1) {
		if (before == "M" || before == "D") && layoutField.MatchString(part) {
			return false
		}
		count[part]++
		before = part
	}
	return count["YYYY"] == 1 && count["MM"]+count["M"] == 1 && count["DD"]+count["D"] == 1 && count["Y"] == 0
}

// formatted writes a date by the chapter's words.
func formatted(layout string, year, month, day int) string {
	return layoutParts.ReplaceAllStringFunc(layout, func(part string) string {
		switch part {
		case "YYYY":
			return fmt.Sprintf("%04d", year)
		case "MM":
			return fmt.Sprintf("%02d", month)
		case "M":
			return fmt.Sprint(month)
		case "DD":
			return fmt.Sprintf("%02d", day)
		case "D":
			return fmt.Sprint(day)
		}
		return part
	})
}

// layouts returns all strings of at most so many of the parts.
func layouts(most int, parts ...string) []string {
	all, last := []string{""}, []string{""}
	for range most {
		var longer []string
		for _, layout := range last {
			for _, part := range parts {
				longer = append(longer, layout+part)
			}
		}
		all, last = append(all, longer...), longer
	}
	return all
}

// TestP3_4AllLayouts goes through all layouts of a few parts.
func TestP3_4AllLayouts(t *testing.T) {
	dates := [][3]int{{1, 1, 1}, {2024, 2, 29}, {987, 10, 5}, {1999, 3, 11}, {9999, 12, 31}, {11, 11, 11}}
	rights := 0
	for _, layout := range layouts(6, "YYYY", "Y", "MM", "M", "DD", "D", "-") {
		right := rightLayout(layout)
		if right {
			rights++
		}
		for _, d := range dates {
			n, want := number(t, d[0], d[1], d[2]), ""
			if right {
				want = formatted(layout, d[0], d[1], d[2])
			}
			got, ok := date.Format(layout, n)
			if got != want || ok != right {
				t.Fatalf("Format(%q, %d): %q, %v, want %q, %v", layout, n, got, ok, want, right)
			}
			text := formatted(layout, d[0], d[1], d[2])
			if back, ok := date.Read(layout, text); ok != right || ok && back != n || !ok && back != 0 {
				t.Fatalf("Read(%q, %q): %d, %v, want %d, %v", layout, text, back, ok, n, right)
			}
		}
	}
	if rights < 100 {
		t.Errorf("only %d layouts are right", rights)
	}
}

func TestP3_4WrongLayouts(t *testing.T) {
	for _, layout := range []string{
		"", "-", "YYYY", "YYYY-MM", "YYYY-DD", "MM-DD", "YY-MM-DD", "YYY-MM-DD", "YYYYY-MM-DD", "YYYYYYYY-MM-DD", "YYYY-YYYY-MM-DD", "YYYY-MMM-DD", "YYYY-MM-DDD", "YYYY-MM-MM-DD",
		"YYYY-M-MM-DD", "YYYY-MM-D-DD", "YYYY-M-M-D", "YYYY-M-D-D", "DMYYYY", "MDYYYY", "YYYYMD", "YYYYDM", "YYYYMDD", "YYYYDMM", "D-MYYYY", "M-DYYYY", "YYYY-MM-DD Y", "YYYY-MM-DD M", "YYYY-MM-DD D",
		"YYYY-MM-DD Day", "YYYY-MM-DD1", "0YYYY-MM-DD", "YYYY9MM-DD", "YYYY-MM-DD5", "yyyy-mm-dd",
		"YYYY-MM-DD\x1f", "YYYY-MM-DD\x7f", "YYYY-MM-DD\n", "\x00YYYY-MM-DD", "YYYY-MM-DDé", "YYYY-MM-DD\x80", "YYYY-MM-DD\xff",
		"YYYY-MM-DD" + strings.Repeat(".", 31), strings.Repeat("-", 1<<20) + "YYYY-MM-DD", strings.Repeat("YYYY-MM-DD", 1<<16),
	} {
		for _, n := range []int{0, 730178, api.MaxDay} {
			if s, ok := date.Format(layout, n); s != "" || ok {
				t.Errorf("Format(%.50q, %d): %.50q, %v", layout, n, s, ok)
			}
			year, month, day, _ := date.Civil(n)
			for _, s := range []string{"", layout, formatted(layout, year, month, day)} {
				if back, ok := date.Read(layout, s); back != 0 || ok {
					t.Errorf("Read(%.50q, %.50q): %d, %v", layout, s, back, ok)
				}
			}
		}
	}
}

func TestP3_4RightLayouts(t *testing.T) {
	n := number(t, 2024, 3, 7)
	for _, x := range []struct{ layout, want string }{
		{"YYYY-MM-DD", "2024-03-07"}, {"YYYYMMDD", "20240307"}, {"DDMMYYYY", "07032024"}, {"MMYYYYDD", "03202407"}, {"YYYYMMD", "2024037"}, {"YYYYDDM", "2024073"}, {"DD.MYYYY", ""},
		{"MMD.YYYY", "037.2024"}, {"DDM.YYYY", "073.2024"}, {"YYYYD M", "20247 3"}, {"D.M.YYYY", "7.3.2024"}, {"M/D/YYYY", "3/7/2024"}, {"day D of M, YYYY", "day 7 of 3, 2024"},
		{" ~YYYY ~MM ~DD ~", " ~2024 ~03 ~07 ~"}, {"y m d YYYYmMdD", "y m d 2024m3d7"}, {"YYYY-MM-DD" + strings.Repeat(".", 30), "2024-03-07" + strings.Repeat(".", 30)},
		{strings.Repeat("x", 34) + "YYYYMD", ""}, {strings.Repeat("x", 33) + "YYYYM:D", strings.Repeat("x", 33) + "20243:7"},
	} {
		if s, ok := date.Format(x.layout, n); s != x.want || ok != (x.want != "") {
			t.Errorf("Format(%q): %q, %v", x.layout, s, ok)
		}
		if back, ok := date.Read(x.layout, x.want); ok != (x.want != "") || ok && back != n {
			t.Errorf("Read(%q, %q): %d, %v", x.layout, x.want, back, ok)
		}
	}
	for _, x := range extremes {
		if s, ok := date.Format("YYYY-MM-DD", x); s != "" || ok {
			t.Errorf("Format of %d: %q, %v", x, s, ok)
		}
	}
}

// TestP3_4Separators puts each byte between the fields.
func TestP3_4Separators(t *testing.T) {
	for c := range 256 {
		sep := string([]byte{byte(c)})
		layout, text := "D"+sep+"M"+sep+"YYYY", "29"+sep+"2"+sep+"2000"
		right := 32 <= c && c <= 126 && !strings.Contains("YMD0123456789", sep)
		s, ok := date.Format(layout, 730178)
		n, read := date.Read(layout, text)
		if ok != right || read != right || right && (s != text || n != 730178) || !right && (s != "" || n != 0) {
			t.Errorf("separator %q: %q, %v; %d, %v", sep, s, ok, n, read)
		}
	}
}

// TestP3_4ReadExactly reads texts that are nearly right: only those that Format writes have a number.
func TestP3_4ReadExactly(t *testing.T) {
	numbers := strings.Fields("0 00 1 01 001 2 02 3 9 09 10 010 11 12 012 13 28 29 30 31 031 32 99 100 x +1 -1")
	years := strings.Fields("0 0000 1 01 0001 00001 900 0900 1900 2000 02000 20000 9999 10000")
	for _, layout := range []string{"D.M.YYYY", "DD.MM.YYYY", "DD.M.YYYY", "D.MM.YYYY"} {
		written := map[string]int{}
		for _, year := range []int{1, 900, 1900, 2000, 9999} {
			for n := number(t, year, 1, 1); n <= number(t, year, 12, 31); n++ {
				s, _ := date.Format(layout, n)
				written[s] = n
			}
		}
		for _, year := range years {
			for _, month := range numbers {
				for _, day := range numbers {
					s := day + "." + month + "." + year
					want, exists := written[s]
					if n, ok := date.Read(layout, s); n != want || ok != exists {
						t.Fatalf("Read(%q, %q): %d, %v, want %d, %v", layout, s, n, ok, want, exists)
					}
				}
			}
		}
	}
}

func TestP3_4ReadOfOtherTexts(t *testing.T) {
	for _, x := range []struct{ layout, s string }{
		{"D.M.YYYY", ""}, {"D.M.YYYY", "1.2"}, {"D.M.YYYY", "1.2."}, {"D.M.YYYY", "1.2.2000."}, {"D.M.YYYY", "1,2.2000"}, {"D.M.YYYY", " 1.2.2000"}, {"D.M.YYYY", "1..2000"}, {"D.M.YYYY", "12.2000"},
		{"YYYYMMD", "2000021x"}, {"YYYYMMD", "200002"}, {"YYYYMMD", "20000200"}, {"YYYYMMD", "20000201"}, {"YYYYMMD", "2000130"}, {"YYYYMMDD", "2000021"}, {"YYYYMMDD", "200002001"},
		{"on D in M of YYYY", "on 1 in 2 of 200"}, {"on D in M of YYYY", "On 1 in 2 of 2000"}, {"YYYY-M-D end", "2000-1-1 en"}, {"YYYY-M-D end", "2000-1-1 ends"}, {"D.M.YYYY", "D.M.YYYY"},
		{"D.M.YYYY", strings.Repeat("1", 1<<16)}, {"D.M.YYYY", "1.2.2000" + strings.Repeat("0", 1<<16)}, {"D.M.YYYY", strings.Repeat("0", 1<<16) + "1.2.2000"},
	} {
		if n, ok := date.Read(x.layout, x.s); n != 0 || ok {
			t.Errorf("Read(%q, %.40q): %d, %v", x.layout, x.s, n, ok)
		}
	}
}

// TestP3_5ReadUndoesFormat goes through many dates with layouts of all kinds of fields.
func TestP3_5ReadUndoesFormat(t *testing.T) {
	for _, layout := range []string{"YYYY-MM-DD", "YYYYMMDD", "D.M.YYYY", "YYYY/M/D", "YYYYMMD", "DDM,YYYY", "MM of YYYY, D"} {
		for n := 0; n <= api.MaxDay; n += 113 {
			s, ok := date.Format(layout, n)
			if back, read := date.Read(layout, s); !ok || !read || back != n {
				t.Fatalf("%q, %d: %q, %v; %d, %v", layout, n, s, ok, back, read)
			}
		}
	}
}
