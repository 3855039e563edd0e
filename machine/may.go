package machine

import "dryshod/api"

// May tells whether an image may be.
func May(m api.Image) bool {
	if len(m.Code) < 1 || len(m.Code) > api.MaxCode || !isUpTo(m.Low, api.MaxWords) || !isUpTo(m.High, api.MaxWords) {
		return false
	}
	for _, o := range m.Code {
		if !IsOrderAmong(o, len(m.Code)) {
			return false
		}
	}
	return true
}

// IsOrderAmong tells whether o is one as the table says, where there are so many orders.
func IsOrderAmong(o api.Instr, orders int) bool {
	return IsOrder(o) && (!goesOn(o.Op) || isBelow(o.N, orders))
}

// IsOrder tells whether o is one as the table says, but for where it goes on.
func IsOrder(o api.Instr) bool {
	named, isOne := fieldsOf(o.Op)
	if o.Op == api.ICheck && (o.N < 1 || o.N > api.MaxArray) {
		return false
	}
	return isOne && mayRegister(o.A, named.a) && mayRegister(o.B, named.b) && mayRegister(o.C, named.c) && (named.n || o.N == 0)
}

// mayRegister tells whether a field may be that number: one that is not named is 0.
func mayRegister(number int, isNamed bool) bool {
	if isNamed {
		return isUpTo(number, api.Regs-1)
	}
	return number == 0
}

// fields are those of an order that its kind names.
type fields struct{ a, b, c, n bool }

// fieldsOf answers which fields orders of that kind name, and whether there is such a kind.
func fieldsOf(op int) (fields, bool) {
	switch op {
	case api.ISet, api.IZero, api.ICheck:
		return fields{a: true, n: true}, true
	case api.IMove:
		return fields{a: true, b: true}, true
	case api.IAdd, api.ILoadLow, api.ILoadHi, api.IPutLow, api.IPutHi:
		return fields{a: true, b: true, n: true}, true
	case api.IJump, api.ICall:
		return fields{n: true}, true
	case api.IBack, api.IHalt:
		return fields{}, true
	case api.IOutLow, api.IOutHi, api.IInLow, api.IInHi:
		return fields{a: true}, true
	}
	return fields{a: true, b: true, c: true}, op >= api.IOp+api.OpAdd && op <= api.IOp+api.OpSame
}

// goesOn tells whether orders of that kind go on at their N.
func goesOn(op int) bool { return op == api.IJump || op == api.IZero || op == api.ICall }

func isUpTo(number, most int) bool { return number >= 0 && number <= most }

func isBelow(number int64, count int) bool { return number >= 0 && number < int64(count) }
