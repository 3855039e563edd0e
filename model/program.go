package model

import (
	"strings"

	"dryshod/api"
	"dryshod/face"
	"dryshod/syntax"
)

// procedure is what a call asks of an NProc.
type procedure struct {
	module string // the name of the one that declares it
	params []api.Node
	block  api.Node
}

// program is what its modules declare, by long names.
type program struct {
	vars  map[string][]int64 // the words of each; one that is no array has one
	procs map[string]procedure
}

// read answers the program of texts with which Order has no trouble.
func read(texts []string) program {
	p := program{vars: map[string][]int64{}, procs: map[string]procedure{}}
	for _, text := range texts {
		// Order has read it, too: nothing can be wrong.
		module, _ := syntax.Parse(text)
		for _, n := range module.Kids {
			p.declare(n, module.Text)
		}
	}
	return p
}

// declare makes what a kid of the module with that name declares known.
func (p *program) declare(n api.Node, module string) {
	name := longName(n.Text, module)
	switch n.Kind {
	case api.NVar:
		p.vars[name] = make([]int64, max(face.VarOf(n).Size, 1))
	case api.NProc:
		last := len(n.Kids) - 1
		p.procs[name] = procedure{module, n.Kids[:last], n.Kids[last]}
	}
}

// longName answers a name with a point, where it stands in that module.
func longName(text, module string) string {
	if strings.Contains(text, ".") {
		return text
	}
	return module + "." + text
}
