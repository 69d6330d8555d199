package nat

import (
	"math/big"
	"testing"
)

// rests returns x, y, and the rests of Euclid's algorithm for them, to the last one, which is 0.
func rests(x, y digits) []*big.Int {
	list := []*big.Int{library(x), library(y)}
	for last := list[1]; last.Sign() != 0; list = append(list, last) {
		last = new(big.Int).Rem(list[len(list)-2], last)
	}
	return list
}

// TestP1_3Reduced checks that long numbers are reduced to two neighbouring rests of Euclid's algorithm, and that this does at least so many steps at once.
func TestP1_3Reduced(t *testing.T) {
	for n, c := range []struct {
		x, y  digits
		steps int
	}{
		{digits{5, 1 << 63}, digits{3, 1 << 62}, 1},
		{digits{7, 9}, digits{7, 9}, 1},
		{digits{7, 9}, digits{6, 9}, 1},
		{digits{1, 2, 3}, digits{8, 9}, 1},
		{digits{0xc4ceb9fe1a85ec53, 0xff51afd7ed558ccd}, digits{0x94d049bb133111eb, 0xbf58476d1ce4e5b9}, 15},
		{digits{0x2545f4914f6cdd1d, 0xd6e8feb86659fd93, 0x1b}, digits{0x94d049bb133111eb, 0xbf58476d1ce4e5b9, 0xf}, 10},
	} {
		want := rests(c.x, c.y)
		first, second := reduced(c.x, c.y)
		steps := 1
		for steps < len(want) && want[steps].Cmp(library(first)) != 0 {
			steps++
		}
		if steps < c.steps || steps+1 >= len(want) || want[steps+1].Cmp(library(second)) != 0 {
			t.Errorf("case %d: %#x and %#x after %d steps", n, first, second, steps)
		}
	}
}
