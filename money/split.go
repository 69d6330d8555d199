package money

import (
	"iter"
	"slices"

	"tithing/api"
	"tithing/nat"
	"tithing/ratio"
)

// mostWeights is how many weights Split divides for at most.
const mostWeights = 100

func Split(total api.Rat, weights []api.Rat) ([]api.Rat, bool) {
	cents, ok := Cents(total)
	if !ok || len(weights) > mostWeights {
		return nil, false
	}
	// Quotas stay the same if all weights are multiplied by one number, which makes them whole here.
	_, wholes, ok := ratio.Common(weights)
	sum := sumOf(wholes)
	if !ok || sum == "" { // so it is for no weights, too
		return nil, false
	}
	return amounts(cents < 0, divided(unsigned(cents), wholes, sum)), true
}

// divided returns the parts of so many cents, one for each of the weights, whose sum is not 0.
func divided(cents api.Nat, weights []api.Nat, sum api.Nat) []api.Nat {
	parts := make([]api.Nat, len(weights))
	// All quotas have the denominator sum, so that their rests are ordered as their fractions are.
	rests := make([]api.Nat, len(weights))
	for place, weight := range weights {
		parts[place], rests[place], _ = nat.Quo(nat.Mul(cents, weight), sum)
	}
	left, _ := nat.Sub(cents, sumOf(parts))
	count, _ := nat.Int(left) // each quota lost less than a cent: fewer are left than there are weights
	for place := range greatest(rests, count) {
		parts[place] = nat.Add(parts[place], one)
	}
	return parts
}

// greatest returns the places of so many numbers: the greatest ones, of equal ones the first ones.
func greatest(numbers []api.Nat, count int) iter.Seq[int] {
	return func(yield func(place int) bool) {
		places := make([]int, len(numbers))
		for place := range places {
			places[place] = place
		}
		slices.SortStableFunc(places, func(i, j int) int { return nat.Cmp(numbers[j], numbers[i]) })
		for _, place := range places[:count] {
			if !yield(place) {
				return
			}
		}
	}
}

// amounts returns the amounts of numbers of cents, all of them negative if neg is set.
func amounts(neg bool, cents []api.Nat) []api.Rat {
	made := make([]api.Rat, len(cents))
	for place, number := range cents {
		made[place], _ = ratio.Make(neg, number, hundred)
	}
	return made
}

func sumOf(numbers []api.Nat) api.Nat {
	var sum api.Nat
	for _, number := range numbers {
		sum = nat.Add(sum, number)
	}
	return sum
}
