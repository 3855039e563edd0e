package check

import (
	"math/rand"
	"slices"

	"dryshod/api"
	"dryshod/syntax"
)

// callee is what a maker knows of a procedure.
type callee struct {
	name   string
	params int
	gives  bool
}

// maker makes nodes at random, of names that mostly mean something.
type maker struct {
	*rand.Rand
	high          int // how many of ten labels are high
	words, arrays []string
	procs         []callee
	open          int // how many of procs are called mostly, so that calls come back
}

func node(kind int, text string, num int64, kids ...api.Node) api.Node {
	return api.Node{Kind: kind, Text: text, Num: num, Kids: kids}
}

func (m *maker) label() int64 {
	if m.Intn(10) < m.high {
		return api.High
	}
	return api.Low
}

// name answers one of names, or now and then one that means something else, or nothing.
func (m *maker) name(names []string) string {
	if len(names) == 0 || m.Intn(60) == 0 {
		return []string{"z", "n1.z", "z.v0", "n1.v0", "n2.v0", "v0", "v2", "p0", "n1.p0", "n2.p0", "main", "n1"}[m.Intn(12)]
	}
	return names[m.Intn(len(names))]
}

// place answers an NName or NItem.
func (m *maker) place(depth int) api.Node {
	if depth > 0 && m.Intn(3) == 0 {
		return node(api.NItem, m.name(m.arrays), 0, m.index(depth-1))
	}
	return node(api.NName, m.name(m.words), 0)
}

// index answers an expression that mostly names a word of an array.
func (m *maker) index(depth int) api.Node {
	switch m.Intn(8) {
	case 0:
		return m.expr(depth)
	case 1, 2, 3:
		return node(api.NOp, "", api.OpAnd, m.expr(depth), node(api.NNumber, "", 1))
	}
	return node(api.NNumber, "", int64(m.Intn(3)))
}

// callee answers a procedure.
func (m *maker) callee() callee {
	if m.open > 0 && m.Intn(20) > 0 {
		return m.procs[m.Intn(m.open)]
	}
	return m.procs[m.Intn(len(m.procs))]
}

// call answers an NCall; one of what gives something mostly, unless it stands alone.
func (m *maker) call(depth int, isAlone bool) api.Node {
	found := m.callee()
	for range 4 {
		if found.gives || isAlone {
			break
		}
		found = m.callee()
	}
	if m.Intn(60) == 0 {
		found.name = m.name(nil)
	}
	n := node(api.NCall, found.name, 0)
	if m.Intn(60) == 0 {
		found.params = m.Intn(api.MaxParams + 2)
	}
	for range found.params {
		n.Kids = append(n.Kids, m.expr(depth-1))
	}
	return n
}

func (m *maker) expr(depth int) api.Node {
	if depth <= 0 {
		if m.Intn(2) == 0 {
			return node(api.NNumber, "", int64(m.Intn(4)))
		}
		return node(api.NName, m.name(m.words), 0)
	}
	switch m.Intn(9) {
	case 0, 1:
		op := api.OpAdd + m.Intn(api.OpSame)
		if op == api.OpDiv && m.Intn(4) > 0 {
			op = api.OpSub
		}
		return node(api.NOp, "", int64(op), m.expr(depth-1), m.expr(depth-1))
	case 2:
		return node(api.NNeg, "", 0, m.expr(depth-1))
	case 3:
		return node(api.NNot, "", 0, m.expr(depth-1))
	case 4, 5:
		return m.call(depth, false)
	case 6, 7:
		return m.place(depth)
	}
	return m.expr(0)
}

func (m *maker) block(depth int) api.Node {
	n := node(api.NBlock, "", 0)
	for range m.Intn(4) {
		n.Kids = append(n.Kids, m.stat(depth-1))
	}
	return n
}

// loop answers an NWhile, mostly one that counts down.
func (m *maker) loop(depth int) api.Node {
	if m.Intn(4) == 0 {
		return node(api.NWhile, "", 0, m.expr(2), m.block(depth))
	}
	count := node(api.NName, m.name(m.words), 0)
	block := m.block(depth)
	less := node(api.NOp, "", api.OpSub, count, node(api.NNumber, "", 1))
	block.Kids = append(block.Kids, node(api.NSet, "", 0, count, less))
	return node(api.NWhile, "", 0, node(api.NOp, "", api.OpLess, node(api.NNumber, "", 0), count), block)
}

func (m *maker) stat(depth int) api.Node {
	switch kind := m.Intn(20); {
	case kind < 5 && depth > 0:
		n := node(api.NIf, "", 0, m.expr(2), m.block(depth))
		if m.Intn(2) == 0 {
			n.Kids = append(n.Kids, m.block(depth))
		}
		return n
	case kind < 8 && depth > 0:
		return m.loop(depth)
	case kind < 10:
		return node(api.NLocal, []string{"x", "y", "v0", "v2"}[m.Intn(4)], m.label(), m.expr(2))
	case kind < 13:
		return node(api.NSet, "", 0, m.place(2), m.expr(3))
	case kind < 15:
		return node(api.NDo, "", 0, m.call(2, true))
	case kind < 17:
		return node(api.NOut, "", m.label(), m.expr(3))
	case kind < 19:
		return node(api.NIn, "", m.label(), m.place(2))
	case m.Intn(4) == 0:
		return node(api.NReturn, "", 0, m.expr(1))
	}
	return node(api.NSet, "", 0, m.place(1), m.expr(1))
}

// know makes m use what is declared in a face, with its module's name and a point ahead.
func (m *maker) know(f api.Face) {
	for _, v := range f.Vars {
		if v.Size > 0 {
			m.arrays = append(m.arrays, f.Module+"."+v.Name)
		} else {
			m.words = append(m.words, f.Module+"."+v.Name)
		}
	}
	for _, p := range f.Procs {
		m.procs = append(m.procs, callee{f.Module + "." + p.Name, len(p.Params), p.Gives})
	}
}

// module answers a module with declarations, but nearly nothing in its procedures.
func (m *maker) module(name string, imports ...api.Face) api.Node {
	n := node(api.NModule, name, 0)
	for _, f := range imports {
		n.Kids = append(n.Kids, node(api.NImport, f.Module, 0))
		m.know(f)
	}
	m.words = append(m.words, "v0", "v0", "v1", "v1", "x", "y", "c", "d")
	m.arrays = append(m.arrays, "v2", "v3")
	n.Kids = append(n.Kids,
		node(api.NVar, "v0", api.Low+syntax.Pub), node(api.NVar, "v1", api.High+syntax.Pub),
		node(api.NVar, "v2", api.Low+syntax.Pub, node(api.NNumber, "", 4)), node(api.NVar, "v3", api.High+syntax.Pub, node(api.NNumber, "", 3)))
	for _, name := range []string{"p0", "p1", "p2", "p3"} {
		n.Kids = append(n.Kids, m.proc(name))
	}
	n.Kids = append(n.Kids, node(api.NProc, "main", syntax.Pub, mainBlock()))
	return n
}

// mainBlock takes something of both inputs in, and lets something low out.
func mainBlock() api.Node {
	place := func(text string) api.Node { return node(api.NName, text, 0) }
	word := func(text string) api.Node { return node(api.NItem, text, 0, node(api.NNumber, "", 1)) }
	return node(api.NBlock, "", 0,
		node(api.NIn, "", api.High, place("v1")), node(api.NIn, "", api.High, word("v3")), node(api.NIn, "", api.Low, place("v0")),
		node(api.NOut, "", api.Low, place("v0")), node(api.NOut, "", api.Low, word("v2")))
}

func (m *maker) proc(name string) api.Node {
	n := node(api.NProc, name, syntax.Pub+m.label())
	for _, param := range []string{"c", "d"}[:m.Intn(3)] {
		n.Kids = append(n.Kids, node(api.NParam, param, m.label()))
	}
	m.procs = append(m.procs, callee{name, len(n.Kids), false})
	body := node(api.NBlock, "", 0)
	if m.Intn(3) > 0 {
		m.procs[len(m.procs)-1].gives = true
		n.Num += syntax.GivesLow
		if m.label() == api.High {
			n.Num += syntax.GivesHigh - syntax.GivesLow
		}
		body.Kids = append(body.Kids, node(api.NReturn, "", 0, node(api.NNumber, "", 1)))
	}
	n.Kids = append(n.Kids, body)
	return n
}

// changed answers the module with another statement in one of its
// procedures, or with another value in an NReturn.
func (m *maker) changed(module api.Node) api.Node {
	procs := slices.IndexFunc(module.Kids, func(n api.Node) bool { return n.Kind == api.NProc })
	which := len(module.Kids) - 1
	if m.Intn(3) > 0 {
		which = procs + m.Intn(len(module.Kids)-procs)
	}
	proc := module.Kids[which]
	m.open = len(m.procs) - (len(module.Kids) - 1 - which)
	body := proc.Kids[len(proc.Kids)-1]
	last := len(body.Kids) - 1
	isGiving := last >= 0 && body.Kids[last].Kind == api.NReturn
	at := m.Intn(len(body.Kids) + 1)
	switch {
	case isGiving && m.Intn(4) == 0:
		body.Kids = slices.Concat(body.Kids[:last], []api.Node{node(api.NReturn, "", 0, m.expr(2))})
	case isGiving && m.Intn(40) == 0:
		body.Kids = body.Kids[:last]
	default:
		if isGiving && m.Intn(20) > 0 {
			at = min(at, last)
		}
		body.Kids = slices.Concat(body.Kids[:at], []api.Node{m.stat(3)}, body.Kids[at:])
	}
	proc.Kids = slices.Concat(proc.Kids[:len(proc.Kids)-1], []api.Node{body})
	module.Kids = slices.Concat(module.Kids[:which], []api.Node{proc}, module.Kids[which+1:])
	return module
}
