package whole

import (
	"math/rand"
	"slices"
	"strconv"
	"strings"

	"dryshod/api"
	"dryshod/num"
)

// thing is a variable, array or local that can be named.
type thing struct {
	name  string
	label int
	size  int
}

// callee is a procedure that can be called.
type callee struct {
	name   string
	params []int
	writes int
	gives  bool
	given  int
}

// maker makes programs at random in which nothing high comes to anything low:
// as it writes it knows what may stand where. By E5 a loop that asks something
// high may call what writes low as it asks; those it does not write, since G4
// does not hold of them (see README.md).
type maker struct {
	*rand.Rand
	things []thing // those that are there, the innermost last
	first  int     // of the locals of the block that is being written
	procs  []callee
}

func (m *maker) label() int { return m.Intn(2) }

// atLeast answers a label that something with the label least may come to.
func (m *maker) atLeast(least int) int { return num.Join(least, m.label()) }

func word(label int) string { return []string{"low", "high"}[label] }

// isHidden tells whether a later thing has the name of that one.
func (m *maker) isHidden(at int) bool {
	return slices.ContainsFunc(m.things[at+1:], func(other thing) bool { return other.name == m.things[at].name })
}

// find answers a thing that can be named, whose label is from least to most.
func (m *maker) find(least, most int, isArray bool) (found thing, ok bool) {
	var all []thing
	for at, one := range m.things {
		if one.label >= least && one.label <= most && (one.size > 0) == isArray && !m.isHidden(at) {
			all = append(all, one)
		}
	}
	if len(all) == 0 {
		return thing{}, false
	}
	return all[m.Intn(len(all))], true
}

// item answers a word of an array, mostly one that it has.
func (m *maker) item(array thing, context, depth int) string {
	index := m.expr(array.label, context, depth-1)
	switch m.Intn(12) {
	case 0:
	case 1, 2, 3, 4:
		index = strconv.Itoa(m.Intn(array.size))
	default:
		index = index + "&1"
	}
	return array.name + "[" + index + "]"
}

// place answers something that may become what has the label least.
func (m *maker) place(least, context, depth int) (text string, label int, ok bool) {
	if array, found := m.find(least, api.High, true); found && m.Intn(3) == 0 {
		return m.item(array, context, depth), array.label, true
	}
	one, ok := m.find(least, api.High, false)
	return one.name, one.label, ok
}

func (m *maker) atom(most int) string {
	if one, found := m.find(api.Low, most, false); found && m.Intn(3) > 0 {
		return one.name
	}
	if m.Intn(30) == 0 {
		return "9223372036854775807"
	}
	return strconv.Itoa(m.Intn(5))
}

func (m *maker) sign() string {
	signs := strings.Fields("+ - * + - & | < == + - < == + - * / %")
	return signs[m.Intn(len(signs))]
}

// expr answers an expression whose label is at most that, in a context.
func (m *maker) expr(most, context, depth int) string {
	if depth <= 0 {
		return m.atom(most)
	}
	switch m.Intn(10) {
	case 0, 1, 2:
		sign, right := m.sign(), m.expr(most, context, depth-1)
		if strings.Contains("/%", sign) && m.Intn(6) > 0 {
			right = "(" + right + "|1)"
		}
		return "(" + m.expr(most, context, depth-1) + sign + right + ")"
	case 3:
		return "-" + m.expr(most, context, depth-1)
	case 4:
		return "!" + m.expr(most, context, depth-1)
	case 5, 6:
		if array, found := m.find(api.Low, most, true); found {
			return m.item(array, context, depth)
		}
	case 7, 8:
		giving := func(p callee) bool { return p.gives && p.given <= most && p.writes >= context }
		if text, found := m.call(giving, context, depth); found {
			return text
		}
	}
	return m.atom(most)
}

// call answers one of a procedure that may be called.
func (m *maker) call(mayBe func(callee) bool, context, depth int) (text string, ok bool) {
	var all []callee
	for _, p := range m.procs {
		if mayBe(p) {
			all = append(all, p)
		}
	}
	if len(all) == 0 {
		return "", false
	}
	p := all[m.Intn(len(all))]
	var args []string
	for _, label := range p.params {
		args = append(args, m.expr(label, context, depth-1))
	}
	return p.name + "(" + strings.Join(args, ",") + ")", true
}

// block answers statements, and forgets the locals that they make.
func (m *maker) block(context, depth int) string {
	things, first := m.things, m.first
	m.first = len(m.things)
	text := m.stats(1+m.Intn(3), context, depth)
	m.things, m.first = things, first
	return text
}

func (m *maker) stats(count, context, depth int) string {
	text := ""
	for range count {
		text += m.stat(context, depth)
	}
	return text
}

func (m *maker) stat(context, depth int) string {
	kind := m.Intn(20)
	switch {
	case kind < 3 && depth > 0:
		asked := m.label()
		text := "if(" + m.expr(asked, context, 2) + "){" + m.block(num.Join(context, asked), depth-1) + "}"
		if m.label() == 1 {
			text += "else{" + m.block(num.Join(context, asked), depth-1) + "}"
		}
		return text
	case kind < 6 && depth > 0:
		return m.loop(context, depth)
	case kind < 8:
		return m.local(context)
	case kind < 11:
		if text, label, ok := m.place(context, context, 2); ok {
			return text + "=" + m.expr(label, context, 3) + ";"
		}
	case kind < 14:
		if text, ok := m.call(func(p callee) bool { return p.writes >= context }, context, 3); ok {
			return "do " + text + ";"
		}
	case kind < 16:
		input := m.atLeast(context)
		if text, _, ok := m.place(input, context, 2); ok {
			return "in " + word(input) + " " + text + ";"
		}
	}
	label := m.atLeast(context)
	return "out " + word(label) + " " + m.expr(label, context, 3) + ";"
}

// loop mostly counts something down.
func (m *maker) loop(context, depth int) string {
	count, ok := m.find(context, api.High, false)
	if !ok || m.Intn(8) == 0 {
		asked := m.label()
		inner := num.Join(context, asked)
		return "while(" + m.expr(asked, inner, 2) + "){" + m.block(inner, depth-1) + "}"
	}
	begin := count.name + "=" + strconv.Itoa(1+m.Intn(3)) + ";"
	if count.label == api.High && m.label() == 1 {
		begin = count.name + "=" + m.expr(api.High, context, 1) + "&3;"
	}
	return begin + "while(0<" + count.name + "){" + m.block(num.Join(context, count.label), depth-1) + count.name + "=" + count.name + "-1;}"
}

// local answers an NLocal, whose name may hide another thing, but none of its own block.
func (m *maker) local(context int) string {
	name := []string{"x", "y", "v", "w", "vs"}[m.Intn(5)]
	label := m.atLeast(context)
	value := m.expr(label, context, 3)
	if slices.ContainsFunc(m.things[m.first:], func(one thing) bool { return one.name == name }) || len(m.things)-m.first > 3 {
		return "out high " + value + ";"
	}
	m.things = append(m.things, thing{name, label, 0})
	return word(label) + " " + name + "=" + value + ";"
}

// proc answers a procedure; now and then it can call itself.
func (m *maker) proc(name string) string {
	p := callee{name: name, writes: m.label(), gives: m.Intn(4) > 0, given: m.label()}
	things := m.things
	m.first = len(m.things)
	var params []string
	for _, param := range []string{"x", "z", "w", "p", "q"}[:m.Intn(6)] {
		label := m.label()
		m.things = append(m.things, thing{param, label, 0})
		p.params = append(p.params, label)
		params = append(params, word(label)+" "+param)
	}
	if m.Intn(8) == 0 {
		m.procs = append(m.procs, p)
	}
	text := "pub proc " + name + "(" + strings.Join(params, ",") + ")" + word(p.writes)
	body := m.stats(1+m.Intn(3), p.writes, 2)
	if p.gives {
		text += " gives " + word(p.given)
		body += "return " + m.expr(p.given, p.writes, 3) + ";"
	}
	m.things = things
	m.procs = append(m.procs, p)
	return text + "{" + body + "}"
}

// module answers one that imports others, in which all names but its own have
// their modules' names ahead.
func (m *maker) module(name string, imports []string) string {
	text := "module " + name + ";"
	for _, other := range imports {
		text += "import " + other + ";"
	}
	own := []thing{{"v", api.Low, 0}, {"w", api.High, 0}, {"vs", api.Low, 2 + m.Intn(3)}, {"ws", api.High, 2 + m.Intn(3)}}
	outside := len(m.things)
	m.things = append(m.things, own...)
	text += "pub low v;pub high w;pub low vs[" + strconv.Itoa(own[2].size) + "];pub high ws[" + strconv.Itoa(own[3].size) + "];"
	called := len(m.procs)
	for _, proc := range []string{"f", "g", "k"} {
		text += m.proc(proc)
	}
	if name == "main" {
		m.first = len(m.things)
		text += "pub proc main()low{in high w;in low v;in high ws[1];" + m.stats(3+m.Intn(4), api.Low, 3) + "do tell();}" +
			"proc tell()low{out low v;out low vs[0];}"
	}
	for i := range m.things[outside:] {
		m.things[outside+i].name = name + "." + m.things[outside+i].name
	}
	m.things = m.things[:outside+len(own)]
	for i := range m.procs[called:] {
		m.procs[called+i].name = name + "." + m.procs[called+i].name
	}
	return text
}

// program answers one to three modules, each of which imports those ahead, in any order.
func (m *maker) program() []string {
	names := []string{"b", "a", "main"}[m.Intn(3):]
	var texts []string
	for i, name := range names {
		texts = append(texts, m.module(name, names[:i]))
	}
	m.Shuffle(len(texts), func(i, j int) { texts[i], texts[j] = texts[j], texts[i] })
	return texts
}

// input answers mostly small numbers, now and then too few of them.
func (m *maker) input() []int64 {
	var list []int64
	count := 3 + m.Intn(40)
	if m.Intn(10) == 0 {
		count = m.Intn(6)
	}
	for range count {
		value := int64(m.Intn(5) - 1)
		if m.Intn(20) == 0 {
			value = int64(m.Uint64())
		}
		list = append(list, value)
	}
	return list
}

// fuel answers mostly all that there may be.
func (m *maker) fuel() int {
	if m.Intn(3) == 0 {
		return m.Intn(api.MaxSteps + 1)
	}
	return api.MaxSteps
}
