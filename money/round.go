package money

import (
	"tithing/api"
	"tithing/nat"
	"tithing/ratio"
)

func Down(a, step api.Rat) (api.Rat, bool) {
	if !canRound(a, step) {
		return api.Rat{}, false
	}
	steps, _ := ratio.Quo(a, step)
	return ratio.Mul(floor(steps), step), true
}

func Up(a, step api.Rat) (api.Rat, bool) {
	down, ok := Down(a, step)
	if !ok || down == a {
		return down, ok
	}
	return ratio.Add(down, step), true
}

func Near(a, step api.Rat) (api.Rat, bool) {
	if !canRound(a, step) {
		return api.Rat{}, false
	}
	// Half a step more is at or above a multiple exactly if that multiple is nearest, or the greater one of two.
	return Down(ratio.Add(a, ratio.Mul(step, half)), step)
}

// canRound reports whether a and step are amounts, and step is greater than 0; Sign counts a step that is no amount as 0.
func canRound(a, step api.Rat) bool {
	return ratio.Right(a) && ratio.Sign(step) > 0
}

// floor returns the greatest whole number that is not greater than an amount.
func floor(a api.Rat) api.Rat {
	whole, rest, _ := nat.Quo(a.Num, a.Den)
	if a.Neg && rest != "" {
		whole = nat.Add(whole, one)
	}
	rounded, _ := ratio.Make(a.Neg, whole, one)
	return rounded
}
