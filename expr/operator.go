package expr

import (
	"strings"

	"tithing/api"
	"tithing/money"
	"tithing/ratio"
)

// What a node has beside its operands.
const (
	hasNothing  = iota
	hasAmount   // in Num
	hasPositive // an amount greater than 0, in Num
	hasTruth    // 0 or 1, in Num
	hasName
)

// operator is a row of the chapter's table: before and after are the text around what a node has.
type operator struct {
	before, after string
	has, operands int
}

var operators = [...]operator{
	api.OpCash:   {"$", "", hasAmount, 0},
	api.OpDays:   {"", "d", hasAmount, 0},
	api.OpNumber: {"", "", hasAmount, 0},
	api.OpTruth:  {"", "", hasTruth, 0},
	api.OpFact:   {"fact.", "", hasName, 0},
	api.OpOwn:    {"own.", "", hasName, 0},
	api.OpPrior:  {"prior.", "", hasName, 0},
	api.OpSpouse: {"spouse.", "", hasName, 0},
	api.OpAdd:    {"add", "", hasNothing, 2},
	api.OpSub:    {"sub", "", hasNothing, 2},
	api.OpMul:    {"mul", "", hasNothing, 2},
	api.OpDiv:    {"div", "", hasNothing, 2},
	api.OpMin:    {"min", "", hasNothing, 2},
	api.OpMax:    {"max", "", hasNothing, 2},
	api.OpIf:     {"if", "", hasNothing, 3},
	api.OpLess:   {"less", "", hasNothing, 2},
	api.OpEqual:  {"equal", "", hasNothing, 2},
	api.OpAnd:    {"and", "", hasNothing, 2},
	api.OpOr:     {"or", "", hasNothing, 2},
	api.OpNot:    {"not", "", hasNothing, 1},
	api.OpDown:   {"down[", "]", hasPositive, 1},
	api.OpUp:     {"up[", "]", hasPositive, 1},
	api.OpNear:   {"near[", "]", hasPositive, 1},
	api.OpRate:   {"rate.", "", hasName, 1},
}

var (
	zero = api.Rat{Den: "\x01"}
	one  = api.Rat{Num: "\x01", Den: "\x01"}
)

// checkNode returns the error that a node has by itself, whatever stands before it.
func checkNode(n api.Node) api.Errno {
	if n.Op < api.OpCash || n.Op > api.OpRate {
		return api.ErrForm
	}
	o := operators[n.Op]
	switch {
	case !o.allows(n.Num), o.has != hasName && n.Name != "":
		return api.ErrForm
	case o.has == hasName && !isName(n.Name):
		return api.ErrName
	}
	return api.OK
}

// allows reports whether num may be the Num of a node.
func (o operator) allows(num api.Rat) bool {
	switch o.has {
	case hasAmount:
		return money.Fits(num)
	case hasPositive:
		return money.Fits(num) && ratio.Sign(num) > 0
	case hasTruth:
		return num == zero || num == one
	}
	return num == api.Rat{}
}

// isName reports whether s is a name.
func isName(s string) bool {
	if s == "" || len(s) > api.MaxName || !isLetter(rune(s[0])) {
		return false
	}
	return !strings.ContainsFunc(s, func(c rune) bool {
		return !isLetter(c) && (c < '0' || c > '9') && c != '_'
	})
}

func isLetter(c rune) bool { return 'a' <= c && c <= 'z' }
