// Package num reckons with numbers of 64 bits and joins labels: see doc/01-num.md.
package num

import "dryshod/api"

// Op answers what op makes of a and b, and true; 0 and false, where it makes nothing of them.
func Op(op int, a, b int64) (int64, bool) {
	told := func(holds bool) int64 {
		if holds {
			return 1
		}
		return 0
	}
	switch op {
	case api.OpAdd:
		return a + b, true
	case api.OpSub:
		return a - b, true
	case api.OpMul:
		return a * b, true
	case api.OpDiv:
		return quotient(a, b)
	case api.OpMod:
		return leftOver(a, b)
	case api.OpAnd:
		return a & b, true
	case api.OpOr:
		return a | b, true
	case api.OpLess:
		return told(a < b), true
	case api.OpSame:
		return told(a == b), true
	}
	return 0, false
}

// The least number and -1 need no case of their own here or in leftOver: the
// language wraps that quotient round to the least number, with 0 left over.
func quotient(a, b int64) (int64, bool) {
	if b == 0 {
		return 0, false
	}
	return a / b, true
}

func leftOver(a, b int64) (int64, bool) {
	if b == 0 {
		return 0, false
	}
	return a % b, true
}

// Join answers the label of what is reckoned of two things with the labels a and b.
func Join(a, b int) int {
	// Asked against Low alone, so that a label that is none counts as high.
	if a != api.Low || b != api.Low {
		return api.High
	}
	return api.Low
}
