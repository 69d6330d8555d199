package statute

import (
	"strconv"
	"strings"

	"tithing/api"
	"tithing/expr"
	"tithing/ratio"
)

func Text(l api.Law) (string, api.Errno) {
	if errno := Check(l); errno != api.OK {
		return "", errno
	}
	var w writer
	for _, f := range l.Facts {
		w.writeFact(f)
	}
	for _, s := range l.Schedules {
		w.writeSchedule(s)
	}
	for _, p := range l.Provisions {
		w.writeProvision(p)
	}
	return w.String(), api.OK
}

// writer writes the lines of the things of a right law.
type writer struct{ strings.Builder }

func (w *writer) writeFact(f api.Decl) {
	w.write("fact ", f.Name, " ", typeText(f.Type), "\n")
}

func (w *writer) writeSchedule(s api.Schedule) {
	w.write("schedule ", s.Name, " ", typeText(argumentType(s)), ": ")
	for place, b := range s.Brackets {
		if place > 0 {
			w.write(", ")
		}
		w.write(ratio.Text(b.From), " ", ratio.Text(b.Rate))
	}
	w.write("\n")
}

func (w *writer) writeProvision(p api.Provision) {
	w.write("provision ", p.Name, " ", typeText(p.Type))
	if p.Charge {
		w.write(" charge")
	}
	if !isPlain(p) {
		w.write(" step ", ratio.Text(p.Step), " cap ", ratio.Text(p.Cap))
	}
	body, _ := expr.Text(p.Body) // which is an expression
	w.write(": ", body, "\n")
}

// write writes pieces one after the other.
func (w *writer) write(pieces ...string) {
	for _, piece := range pieces {
		w.WriteString(piece)
	}
}

// typeText returns the text of a type.
func typeText(t api.Type) string {
	if t.Truth {
		return "truth"
	}
	return "m" + strconv.Itoa(t.Unit.Money) + "d" + strconv.Itoa(t.Unit.Days)
}
