package check

import (
	"slices"
	"strings"

	"dryshod/api"
	"dryshod/face"
	"dryshod/num"
)

// checker goes over a module's nodes.
type checker struct {
	api.Node         // the module
	given    modules // those that may be imported
	known    modules // those that are imported, and, without a name, all that the module itself declares
	locals   []api.Var
	count    int // of the nodes that were begun
}

// goOver answers the first fault of a module that may import those that are given.
func goOver(module api.Node, given modules) (fault api.Fault) {
	defer func() {
		switch lost := recover().(type) {
		case nil:
		case api.Fault:
			fault = lost
		default:
			panic(lost)
		}
	}()
	c := checker{Node: module, given: given, known: modules{}}
	c.module()
	return api.Fault{}
}

// refuse throws a fault of the node with the number at.
func refuse(code api.Errno, at int) {
	panic(api.Fault{Code: code, At: at})
}

// flow lets something with the labels from come to something with the label
// to, at the node with the number at.
func flow(at int, to int, from ...int) {
	for _, label := range from {
		if num.Join(to, label) != to {
			refuse(api.ErrLabel, at)
		}
	}
}

// begin answers the number of the next node. It is asked for ahead of those of
// the node's kids, but its faults are told behind theirs.
func (c *checker) begin() int {
	at := c.count
	c.count++
	return at
}

func (c *checker) module() {
	c.begin()
	c.known[""] = c.declared()
	for _, kid := range c.Kids {
		at := c.begin()
		switch kid.Kind {
		case api.NImport:
			c.imported(kid.Text, at)
		case api.NVar:
			c.count += len(kid.Kids)
		case api.NProc:
			c.proc(kid, at)
		}
	}
}

// declared answers all that the module declares, whether it is pub or not.
func (c *checker) declared() api.Face {
	f := api.Face{Module: c.Text}
	for _, kid := range c.Kids {
		switch kid.Kind {
		case api.NVar:
			f.Vars = append(f.Vars, face.VarOf(kid))
		case api.NProc:
			f.Procs = append(f.Procs, face.ProcOf(kid))
		}
	}
	return f
}

func (c *checker) imported(name string, at int) {
	f, found := c.given[name]
	if !found {
		refuse(api.ErrName, at)
	}
	c.known[name] = f
}

// split answers which of the known modules a name asks, and for what.
func split(text string) (module, name string) {
	module, name, isLong := strings.Cut(text, ".")
	if !isLong {
		return "", text
	}
	return module, name
}

// variable answers the local or variable of a name; it is refused at the node
// with the number at, if there is none.
func (c *checker) variable(text string, at int) api.Var {
	for _, local := range slices.Backward(c.locals) {
		if local.Name == text {
			return local
		}
	}
	module, name := split(text)
	for _, v := range c.known[module].Vars {
		if v.Name == name {
			return v
		}
	}
	refuse(api.ErrName, at)
	return api.Var{}
}

// procedure answers the procedure of a name likewise.
func (c *checker) procedure(text string, at int) api.Proc {
	module, name := split(text)
	for _, p := range c.known[module].Procs {
		if p.Name == name {
			return p
		}
	}
	refuse(api.ErrName, at)
	return api.Proc{}
}
