package statute

import (
	"slices"

	"tithing/api"
	"tithing/check"
	"tithing/money"
	"tithing/rate"
	"tithing/ratio"
)

var cashType = api.Type{Unit: api.Unit{Money: 1}}

func Check(l api.Law) api.Errno {
	if len(l.Facts) > api.MaxFacts || len(l.Schedules) > api.MaxSchedules || len(l.Provisions) > api.MaxProvisions {
		return api.ErrMany
	}
	if errno := checkNames(namesOf(l)); errno != api.OK {
		return errno
	}
	if hasWrongType(l) {
		return api.ErrType
	}
	for _, s := range l.Schedules {
		if errno := rate.Check(s); errno != api.OK {
			return errno
		}
	}
	sigs := Sigs(l)
	for _, p := range l.Provisions {
		if errno := checkProvision(p, sigs); errno != api.OK {
			return errno
		}
	}
	return api.OK
}

// namesOf returns the names of the facts, those of the schedules, and those of the provisions.
func namesOf(l api.Law) [][]string {
	var facts, schedules, provisions []string
	for _, f := range l.Facts {
		facts = append(facts, f.Name)
	}
	for _, s := range l.Schedules {
		schedules = append(schedules, s.Name)
	}
	for _, p := range l.Provisions {
		provisions = append(provisions, p.Name)
	}
	return [][]string{facts, schedules, provisions}
}

// checkNames checks the names of things, which are given by the kinds of the things.
func checkNames(kinds [][]string) api.Errno {
	all := slices.Concat(kinds...)
	switch {
	case slices.ContainsFunc(all, isNoName):
		return api.ErrName
	case slices.ContainsFunc(kinds, isNotIncreasing):
		return api.ErrForm
	case hasTwice(all):
		return api.ErrTwice
	}
	return api.OK
}

func isNoName(s string) bool { return !Name(s) }

// isNotIncreasing reports whether a name is not greater than that before it.
func isNotIncreasing(names []string) bool {
	for place := 1; place < len(names); place++ {
		if names[place] <= names[place-1] {
			return true
		}
	}
	return false
}

// hasTwice reports whether a name occurs twice.
func hasTwice(names []string) bool {
	counts := map[string]int{}
	for _, name := range names {
		counts[name]++
		if counts[name] > 1 {
			return true
		}
	}
	return false
}

// hasWrongType reports whether a fact or a provision has a type that is none, or a schedule a unit that is none.
func hasWrongType(l api.Law) bool {
	return slices.ContainsFunc(l.Facts, func(f api.Decl) bool { return !isType(f.Type) }) ||
		slices.ContainsFunc(l.Schedules, func(s api.Schedule) bool { return !check.Unit(s.Unit) }) ||
		slices.ContainsFunc(l.Provisions, func(p api.Provision) bool { return !isType(p.Type) })
}

// isType reports whether t is a type: exactly then 0 can be a value of it.
func isType(t api.Type) bool { return check.Value(t, ratio.Of(0)) }

// checkProvision checks a provision of a law with these sigs, whose names and types are right.
func checkProvision(p api.Provision, sigs []api.Sig) api.Errno {
	is, errno := check.Type(sigs, p.Body)
	switch {
	case errno != api.OK:
		return errno
	case is != p.Type:
		return api.ErrType
	case p.Charge && p.Type != cashType:
		return api.ErrArg
	case !isPlain(p) && !isCapped(p):
		return api.ErrArg
	}
	return api.OK
}

func isPlain(p api.Provision) bool {
	return p.Step == api.Rat{} && p.Cap == api.Rat{}
}

func isCapped(p api.Provision) bool {
	if p.Type.Truth || !money.Fits(p.Step) || !money.Fits(p.Cap) {
		return false
	}
	multiple, ok := money.Down(p.Cap, p.Step) // not ok, if Step is not greater than 0
	greatest := ratio.Mul(p.Step, ratio.Of(api.MaxUnits))
	return ok && multiple == p.Cap && ratio.Sign(p.Cap) > 0 && ratio.Cmp(p.Cap, greatest) <= 0
}
