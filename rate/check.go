package rate

import (
	"slices"

	"tithing/api"
	"tithing/money"
	"tithing/ratio"
)

func Check(s api.Schedule) api.Errno {
	switch {
	case len(s.Brackets) > api.MaxBrackets:
		return api.ErrMany
	case !isFormed(s.Brackets):
		return api.ErrForm
	case slices.ContainsFunc(s.Brackets, isLong):
		return api.ErrRange
	}
	return api.OK
}

func Rising(s api.Schedule) bool {
	return Check(s) == api.OK && !slices.ContainsFunc(s.Brackets, isFalling)
}

// isFormed reports whether there are brackets of amounts, which begin at 0 and then at greater and greater ones.
func isFormed(brackets []api.Bracket) bool {
	if len(brackets) == 0 || brackets[0].From != zero {
		return false
	}
	for place, b := range brackets {
		if !ratio.Right(b.From) || !ratio.Right(b.Rate) {
			return false
		}
		if place > 0 && ratio.Cmp(brackets[place-1].From, b.From) >= 0 {
			return false
		}
	}
	return true
}

func isLong(b api.Bracket) bool { return !money.Fits(b.From) || !money.Fits(b.Rate) }

func isFalling(b api.Bracket) bool { return ratio.Sign(b.Rate) < 0 }

// checkBoth checks a schedule, and then an argument for it.
func checkBoth(s api.Schedule, x api.Rat) api.Errno {
	if errno := Check(s); errno != api.OK {
		return errno
	}
	return checkAmount(x)
}

// checkInverse checks the arguments of Inverse.
func checkInverse(s api.Schedule, y api.Rat) api.Errno {
	if errno := Check(s); errno != api.OK {
		return errno
	}
	if slices.ContainsFunc(s.Brackets, isFalling) {
		return api.ErrArg
	}
	return checkAmount(y)
}

// checkAmount checks an argument that must be an amount that fits.
func checkAmount(a api.Rat) api.Errno {
	switch {
	case !ratio.Right(a):
		return api.ErrArg
	case !money.Fits(a):
		return api.ErrRange
	}
	return api.OK
}
