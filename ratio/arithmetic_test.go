package ratio

import (
	"testing"

	"tithing/api"
)

// TestP2_4Fold checks that elements are joined in their order, each one once, in halves.
func TestP2_4Fold(t *testing.T) {
	join := func(a, b string) string { return "(" + a + b + ")" }
	for letters, want := range map[string]string{"": "none", "a": "a", "ab": "(ab)", "abc": "(a(bc))", "abcd": "((ab)(cd))", "abcde": "((ab)(c(de)))"} {
		var l []string
		for _, letter := range letters {
			l = append(l, string(letter))
		}
		if got := fold(l, "none", join); got != want {
			t.Errorf("fold of %q = %s", letters, got)
		}
	}
}

// TestP2_5Witness checks that a number that is not right is noticed, and stays noticed.
func TestP2_5Witness(t *testing.T) {
	var w witness
	half := api.Rat{Num: one, Den: "\x02"}
	for _, step := range []struct {
		argument, counts api.Rat
		noticed          bool
	}{{half, half, false}, {zero, zero, false}, {api.Rat{}, zero, true}, {half, half, true}} {
		if got := w.counted(step.argument); got != step.counts || w.noticed != step.noticed {
			t.Errorf("%#v counts as %#v, noticed: %t", step.argument, got, w.noticed)
		}
	}
}
