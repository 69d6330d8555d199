package statute

import (
	"strconv"
	"strings"

	"tithing/api"
	"tithing/expr"
	"tithing/ratio"
)

func Parse(s string) (api.Law, int, api.Errno) {
	var l api.Law
	for place, line := range strings.SplitAfter(s, "\n") {
		isNone := line == "" // which is only what follows the last newline
		if !isNone && !addThing(&l, line) {
			return api.Law{}, place + 1, api.ErrForm
		}
	}
	text, errno := Text(l)
	if errno == api.OK && text != s { // the lines are in another order
		errno = api.ErrForm
	}
	if errno != api.OK {
		return api.Law{}, 0, errno
	}
	return l, 0, api.OK
}

// addThing adds the thing of a line to a law. It reports whether the line is that of a thing.
func addThing(l *api.Law, line string) (isThing bool) {
	defer func() {
		if recover() != nil {
			isThing = false
		}
	}()
	r := reader{line}
	for _, k := range kinds() {
		if r.cut(k.begin) {
			k.add(l, &r)
			return true
		}
	}
	return false
}

// kind is a kind of things: what their lines begin with, and what reads the rest of one and adds its thing to a law.
type kind struct {
	begin string
	add   func(l *api.Law, r *reader)
}

func kinds() []kind {
	return []kind{{"fact ", addFact}, {"schedule ", addSchedule}, {"provision ", addProvision}}
}

func addFact(l *api.Law, r *reader) {
	f := api.Decl{Name: r.readName()}
	r.skip(" ")
	f.Type = r.readType()
	r.skip("\n")
	l.Facts = append(l.Facts, f)
}

func addSchedule(l *api.Law, r *reader) {
	s := api.Schedule{Name: r.readName()}
	r.skip(" ")
	s.Unit = r.readUnit()
	r.skip(": ")
	s.Brackets = append(s.Brackets, r.readBracket())
	for r.cut(", ") {
		s.Brackets = append(s.Brackets, r.readBracket())
	}
	r.skip("\n")
	l.Schedules = append(l.Schedules, s)
}

func addProvision(l *api.Law, r *reader) {
	p := api.Provision{Name: r.readName()}
	r.skip(" ")
	p.Type = r.readType()
	p.Charge = r.cut(" charge")
	if r.cut(" step ") {
		p.Step = r.readNumber()
		r.skip(" cap ")
		p.Cap = r.readNumber()
	}
	r.skip(": ")
	p.Body = r.readBody()
	r.skip("\n")
	l.Provisions = append(l.Provisions, p)
}

// reader reads a line from its beginning on. It leaves one that is not that of a thing by a panic.
type reader struct {
	rest string // what has not been read
}

// cut reads a text if it is there, and reports whether it is.
func (r *reader) cut(text string) bool {
	rest, ok := strings.CutPrefix(r.rest, text)
	r.rest = rest
	return ok
}

// skip reads a text that has to be there.
func (r *reader) skip(text string) {
	if !r.cut(text) {
		panic("not " + text)
	}
}

// readUpTo reads what stands in front of the first one of these bytes, or everything.
func (r *reader) readUpTo(ends string) string {
	end := strings.IndexAny(r.rest, ends)
	if end < 0 {
		end = len(r.rest)
	}
	read := r.rest[:end]
	r.rest = r.rest[end:]
	return read
}

// readWord reads what may be a name, a type or a number.
func (r *reader) readWord() string { return r.readUpTo(" :,\n") }

func (r *reader) readName() string {
	word := r.readWord()
	if !Name(word) {
		panic("no name")
	}
	return word
}

func (r *reader) readType() api.Type {
	word := r.readWord()
	// What is read only tells which type it may be: whether word is its text, the text decides.
	t := api.Type{Truth: word == "truth"}
	money, days, _ := strings.Cut(strings.TrimPrefix(word, "m"), "d")
	t.Unit.Money, _ = strconv.Atoi(money)
	t.Unit.Days, _ = strconv.Atoi(days)
	if !isType(t) || typeText(t) != word {
		panic("no type")
	}
	return t
}

// readUnit reads the text of a number type.
func (r *reader) readUnit() api.Unit {
	t := r.readType()
	if t.Truth {
		panic("no number type")
	}
	return t.Unit
}

func (r *reader) readNumber() api.Rat {
	n, ok := ratio.Parse(r.readWord())
	if !ok {
		panic("no number")
	}
	return n
}

func (r *reader) readBracket() api.Bracket {
	b := api.Bracket{From: r.readNumber()}
	r.skip(" ")
	b.Rate = r.readNumber()
	return b
}

func (r *reader) readBody() []api.Node {
	body, errno := expr.Parse(r.readUpTo("\n"))
	if errno != api.OK {
		panic("no expression")
	}
	return body
}
