package compile

import (
	"slices"

	"dryshod/api"
	"dryshod/face"
)

// target is what a name of the text stands for: what the linker is asked for,
// and of a variable its label and size.
type target struct {
	api.Reloc
	label, size int
}

// maker makes the object of a module that is checked.
//
// All that a call has stands in its high frame, and nothing in its low one: a
// procedure that writes high alone may be called where something high says
// whether it is, and what it is given low would tell that, if a low word had it.
type maker struct {
	api.Object
	api.Node                   // the module
	known    map[string]target // by the names that the module calls them
	slots    []string          // those of the frame that are taken: the locals' names, others have none
}

// imported makes known what the module of that name lets others know.
func (m *maker) imported(name string, faces []api.Face) {
	at := slices.IndexFunc(faces, func(f api.Face) bool { return f.Module == name })
	f := copyOf(faces[at])
	m.Imports = append(m.Imports, f)
	for _, v := range f.Vars {
		m.known[name+"."+v.Name] = targetOf(name, v)
	}
	for _, p := range f.Procs {
		m.known[name+"."+p.Name] = procedureOf(name, p.Name)
	}
}

// copyOf answers a face that shares nothing with f.
func copyOf(f api.Face) api.Face {
	f.Vars = slices.Clone(f.Vars)
	f.Procs = slices.Clone(f.Procs)
	for i := range f.Procs {
		f.Procs[i].Params = slices.Clone(f.Procs[i].Params)
	}
	return f
}

// targetOf answers what a variable of that module is.
func targetOf(module string, v api.Var) target {
	asked := api.Reloc{Kind: ofLabel(api.RelocLow, v.Label), Module: module, Name: v.Name}
	return target{asked, v.Label, v.Size}
}

// procedureOf answers what a procedure of that module is.
func procedureOf(module, name string) target {
	return target{Reloc: api.Reloc{Kind: api.RelocProc, Module: module, Name: name}}
}

// ofLabel answers what package api has for things with that label: what it has
// for high ones stands right behind what it has for low ones.
func ofLabel(low, label int) int { return low + label }

// declared makes known what the module itself declares: a procedure may ask
// for what stands behind it.
func (m *maker) declared() {
	for _, kid := range m.Kids {
		switch kid.Kind {
		case api.NVar:
			m.variable(face.VarOf(kid))
		case api.NProc:
			m.known[kid.Text] = procedureOf(m.Text, kid.Text)
		}
	}
}

// variable gives a variable of the module its words.
func (m *maker) variable(v api.Var) {
	places, words := &m.Lows, &m.Low
	if v.Label == api.High {
		places, words = &m.Highs, &m.High
	}
	*places = append(*places, api.Place{Name: v.Name, At: *words})
	*words += max(v.Size, 1)
	m.known[v.Name] = targetOf(m.Text, v)
}

func (m *maker) procedures() {
	for _, kid := range m.Kids {
		if kid.Kind == api.NProc {
			m.Procs = append(m.Procs, api.Place{Name: kid.Text, At: len(m.Code)})
			m.procedure(kid)
		}
	}
}

// procedure adds the orders of an NProc. Who calls it has put what its
// parameters are in its first slots.
func (m *maker) procedure(n api.Node) {
	m.slots = nil
	last := len(n.Kids) - 1
	for _, param := range n.Kids[:last] {
		m.take(param.Text)
	}
	m.block(n.Kids[last])
	m.add(api.Instr{Op: api.IBack})
}

// take takes the next slot, for a local of that name, or for what has none.
func (m *maker) take(name string) {
	m.slots = append(m.slots, name)
	m.HighFrame = max(m.HighFrame, len(m.slots))
}

// giveBack gives the last slots back.
func (m *maker) giveBack(count int) {
	m.slots = m.slots[:len(m.slots)-count]
}

// slotOf answers the slot of the innermost local of that name, and whether there is one.
func (m *maker) slotOf(name string) (int, bool) {
	for slot, local := range slices.Backward(m.slots) {
		if local == name {
			return slot, true
		}
	}
	return 0, false
}
