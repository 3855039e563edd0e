package face

import (
	"dryshod/api"
	"dryshod/syntax"
)

// names is a set of them.
type names map[string]struct{}

// declarations is the face of a module that is being gone over, and what must
// be known to tell the faults of what is ahead.
type declarations struct {
	api.Face
	imports  []string
	modules  names // the module's own name, and those that it imports
	declared names
	params   names // of the procedure that is being gone over
	at       int   // the number of the node that is being gone over
}

// declare answers the face of the module whose node this is, and the names
// that it imports, or its first fault.
func declare(module api.Node) (f api.Face, imports []string, fault api.Fault) {
	defer func() {
		switch lost := recover().(type) {
		case nil:
		case api.Fault:
			fault = lost
		default:
			panic(lost)
		}
	}()
	d := declarations{modules: names{}, declared: names{}}
	d.visit(module)
	return d.Face, d.imports, api.Fault{}
}

// visit goes over n, and then over its kids.
func (d *declarations) visit(n api.Node) {
	switch n.Kind {
	case api.NModule:
		d.enter(d.modules, n.Text, api.MaxModules)
		d.Module = n.Text
	case api.NImport:
		d.enter(d.modules, n.Text, api.MaxModules)
		d.imports = append(d.imports, n.Text)
	case api.NVar:
		d.addVar(n)
	case api.NProc:
		d.addProc(n)
	case api.NParam:
		d.enter(d.params, n.Text, api.MaxParams)
	}
	d.at++
	for _, kid := range n.Kids {
		d.visit(kid)
	}
}

// refuse throws a fault of the node that is being gone over.
func (d *declarations) refuse(code api.Errno) {
	panic(api.Fault{Code: code, At: d.at})
}

// enter makes name one of those that are known, of which there may be so many.
func (d *declarations) enter(known names, name string, most int) {
	if _, found := known[name]; found {
		d.refuse(api.ErrTwice)
	}
	if len(known) >= most {
		d.refuse(api.ErrSize)
	}
	known[name] = struct{}{}
}

func (d *declarations) addVar(n api.Node) {
	d.enter(d.declared, n.Text, api.MaxDecls)
	for _, size := range n.Kids {
		if size.Num < 1 || size.Num > api.MaxArray {
			d.refuse(api.ErrRange)
		}
	}
	if v := VarOf(n); v.Pub {
		d.Vars = append(d.Vars, v)
	}
}

func (d *declarations) addProc(n api.Node) {
	d.enter(d.declared, n.Text, api.MaxDecls)
	p := ProcOf(n)
	if len(p.Params) > api.MaxParams {
		d.refuse(api.ErrSize)
	}
	if p.Pub {
		d.Procs = append(d.Procs, p)
	}
	d.params = names{}
}

// VarOf answers the variable of an NVar.
func VarOf(n api.Node) api.Var {
	v := api.Var{Name: n.Text, Pub: isPub(n), Label: LabelOf(n)}
	for _, size := range n.Kids {
		v.Size = int(size.Num)
	}
	return v
}

// ProcOf answers the procedure of an NProc.
func ProcOf(n api.Node) api.Proc {
	p := api.Proc{Name: n.Text, Pub: isPub(n), Writes: LabelOf(n)}
	for _, kid := range n.Kids {
		if kid.Kind == api.NParam {
			p.Params = append(p.Params, LabelOf(kid))
		}
	}
	switch n.Num & (syntax.GivesLow | syntax.GivesHigh) {
	case syntax.GivesLow:
		p.Gives, p.Given = true, api.Low
	case syntax.GivesHigh:
		p.Gives, p.Given = true, api.High
	}
	return p
}

func isPub(n api.Node) bool {
	return n.Num&syntax.Pub != 0
}

// LabelOf answers the label that stands in the Num of n.
func LabelOf(n api.Node) int {
	return int(n.Num & api.High)
}
