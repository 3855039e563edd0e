package compile

import (
	"dryshod/api"
	"dryshod/face"
)

// What the orders have registers for.
const (
	left   = 0 // a number; what a procedure gives
	right  = 1 // a second number
	nought = 2 // 0, where an order asks for a register with it
	frame  = 7 // where the slots of the call begin
)

func (m *maker) add(o api.Instr) {
	m.Code = append(m.Code, o)
}

// addFor adds an order to whose N the linker adds where something stands.
func (m *maker) addFor(o api.Instr, asked api.Reloc) {
	asked.At = len(m.Code)
	m.Relocs = append(m.Relocs, asked)
	m.add(o)
}

// addSlot adds an order that loads or puts the number of a register from or
// into a slot.
func (m *maker) addSlot(op, register, slot int) {
	m.add(api.Instr{Op: op, A: register, B: frame, N: int64(slot)})
}

// jump adds an order that goes on at another one of the module's, and answers
// its number; goOn tells it where.
func (m *maker) jump(o api.Instr) int {
	m.addFor(o, api.Reloc{Kind: api.RelocCode})
	return len(m.Code) - 1
}

// goOn lets the order with the number from go on at that with the number at.
func (m *maker) goOn(from, at int) {
	m.Code[from].N = int64(at)
}

func (m *maker) block(n api.Node) {
	outer := len(m.slots)
	for _, stat := range n.Kids {
		m.stat(stat)
	}
	m.giveBack(len(m.slots) - outer)
}

func (m *maker) stat(n api.Node) {
	first := n.Kids[0]
	switch n.Kind {
	case api.NLocal:
		m.value(first, left)
		m.keep(n.Text)
	case api.NSet:
		m.set(first, n.Kids[1])
	case api.NDo:
		m.call(first)
	case api.NIf:
		m.choice(first, n.Kids[1:])
	case api.NWhile:
		m.loop(first, n.Kids[1])
	case api.NOut:
		m.value(first, left)
		m.add(api.Instr{Op: ofLabel(api.IOutLow, face.LabelOf(n)), A: left})
	case api.NIn:
		m.index(first, left)
		m.add(api.Instr{Op: ofLabel(api.IInLow, face.LabelOf(n)), A: right})
		m.word(api.IPutLow, first, right, left)
	case api.NReturn:
		// A procedure's last statement: the way back stands right behind it.
		m.value(first, left)
	}
}

// set lets a place become an expression's number.
func (m *maker) set(place, value api.Node) {
	if place.Kind == api.NItem {
		m.both(place.Kids[0], value)
	} else {
		m.value(value, right)
	}
	m.word(api.IPutLow, place, right, left)
}

// choice does the first one of an NIf's blocks, or the second one, if it has one.
func (m *maker) choice(asked api.Node, blocks []api.Node) {
	m.value(asked, left)
	past := m.jump(api.Instr{Op: api.IZero, A: left})
	m.block(blocks[0])
	if len(blocks) > 1 {
		end := m.jump(api.Instr{Op: api.IJump})
		m.goOn(past, len(m.Code))
		m.block(blocks[1])
		past = end
	}
	m.goOn(past, len(m.Code))
}

func (m *maker) loop(asked, block api.Node) {
	again := len(m.Code)
	m.value(asked, left)
	past := m.jump(api.Instr{Op: api.IZero, A: left})
	m.block(block)
	m.goOn(m.jump(api.Instr{Op: api.IJump}), again)
	m.goOn(past, len(m.Code))
}

// value lets the register to become an expression's number. What the other
// registers are is lost, but of frame, and unless the expression is short.
func (m *maker) value(n api.Node, to int) {
	switch n.Kind {
	case api.NNumber:
		m.add(api.Instr{Op: api.ISet, A: to, N: n.Num})
	case api.NName, api.NItem:
		m.index(n, to)
		m.word(api.ILoadLow, n, to, to)
	case api.NCall:
		m.call(n)
		m.add(api.Instr{Op: api.IMove, A: to, B: left})
	case api.NOp:
		m.both(n.Kids[0], n.Kids[1])
		m.add(api.Instr{Op: api.IOp + int(n.Num), A: to, B: left, C: right})
	case api.NNeg:
		m.fromNought(api.OpSub, n.Kids[0], to)
	case api.NNot:
		m.fromNought(api.OpSame, n.Kids[0], to)
	}
}

// fromNought lets the register to become an operation of 0 and an expression.
func (m *maker) fromNought(op int, n api.Node, to int) {
	m.value(n, to)
	m.add(api.Instr{Op: api.ISet, A: nought})
	m.add(api.Instr{Op: api.IOp + op, A: to, B: nought, C: to})
}

// isShort tells whether the value of an expression changes no register that
// holds a number but the one that becomes it.
func isShort(n api.Node) bool {
	for len(n.Kids) == 1 && n.Kind != api.NCall {
		n = n.Kids[0]
	}
	return n.Kind == api.NNumber || n.Kind == api.NName
}

// both lets left and right become the numbers of two expressions, one behind
// the other.
func (m *maker) both(a, b api.Node) {
	m.value(a, left)
	if isShort(b) {
		m.value(b, right)
		return
	}
	m.keep("")
	m.value(b, right)
	m.giveBack(1)
	m.addSlot(api.ILoadHi, left, len(m.slots))
}

// keep puts left into the next slot, which has a name, if it is a local's.
func (m *maker) keep(name string) {
	m.addSlot(api.IPutHi, left, len(m.slots))
	m.take(name)
}

// call lets left become what a call gives. Its frame begins behind the slots
// that are taken here, so its arguments are put where its parameters are.
func (m *maker) call(n api.Node) {
	for _, kid := range n.Kids {
		m.value(kid, left)
		m.keep("")
	}
	m.giveBack(len(n.Kids))
	taken := int64(len(m.slots))
	m.add(api.Instr{Op: api.IAdd, A: frame, B: frame, N: taken})
	m.addFor(api.Instr{Op: api.ICall}, m.known[n.Text].Reloc)
	m.add(api.Instr{Op: api.IAdd, A: frame, B: frame, N: -taken})
}

// index lets a register become the number of an NItem's kid.
func (m *maker) index(place api.Node, to int) {
	for _, kid := range place.Kids {
		m.value(kid, to)
	}
}

// word loads a register from a place, or puts it there: op is the order for
// low words. Which word of an array is meant, the register index tells.
func (m *maker) word(op int, place api.Node, register, index int) {
	if slot, found := m.slotOf(place.Text); found {
		m.addSlot(ofLabel(op, api.High), register, slot)
		return
	}
	v := m.known[place.Text]
	if v.size > 0 {
		m.add(api.Instr{Op: api.ICheck, A: index, N: int64(v.size)})
	} else {
		index = nought
		m.add(api.Instr{Op: api.ISet, A: nought})
	}
	m.addFor(api.Instr{Op: ofLabel(op, v.label), A: register, B: index}, v.Reloc)
}
