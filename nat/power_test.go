package nat

import (
	"testing"

	"tithing/api"
)

// TestP1_4BitsFromTop checks the digits that Pow takes from an exponent.
func TestP1_4BitsFromTop(t *testing.T) {
	for e, want := range map[api.Nat]string{"": "", "\x00": "", "\x01": "1", "\x00\x05": "101", "\x01\x80": "110000000"} {
		got := ""
		for set := range bitsFromTop(e) {
			if set {
				got += "1"
			} else {
				got += "0"
			}
		}
		if got != want {
			t.Errorf("the digits of %q are %s", e, got)
		}
	}
	many := 0
	for range bitsFromTop("\xff\xff") {
		if many++; many == 3 {
			break
		}
	}
	if many != 3 {
		t.Errorf("a loop that is left after 3 digits sees %d", many)
	}
}
