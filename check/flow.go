package check

import (
	"dryshod/api"
	"dryshod/face"
	"dryshod/num"
)

// scope is what a block tells its statements: their context, and which of the
// locals is the first one of the block.
type scope struct {
	context int
	first   int
}

// proc goes over the kids of an NProc with the number at, and tells its own faults.
func (c *checker) proc(n api.Node, at int) {
	p := face.ProcOf(n)
	c.locals = nil
	last := len(n.Kids) - 1
	for _, param := range n.Kids[:last] {
		c.begin()
		c.locals = append(c.locals, localOf(param))
	}
	c.begin()
	stats := n.Kids[last].Kids
	s := scope{context: p.Writes}
	if !p.Gives {
		c.stats(stats, s)
		return
	}
	end := len(stats) - 1
	if end < 0 || stats[end].Kind != api.NReturn {
		c.stats(stats, s)
		refuse(api.ErrForm, at)
	}
	c.stats(stats[:end], s)
	c.result(stats[end], p)
}

// result goes over the NReturn that is the last statement of a procedure that gives something.
func (c *checker) result(n api.Node, p api.Proc) {
	at := c.begin()
	flow(at, p.Given, c.expr(n.Kids[0], p.Writes))
}

// localOf answers the local of an NParam or NLocal.
func localOf(n api.Node) api.Var {
	return api.Var{Name: n.Text, Label: face.LabelOf(n)}
}

// addLocal makes a local of the innermost block, whose first one is known.
func (c *checker) addLocal(local api.Var, first int, at int) {
	for _, other := range c.locals[first:] {
		if other.Name == local.Name {
			refuse(api.ErrTwice, at)
		}
	}
	if len(c.locals) >= api.MaxLocals {
		refuse(api.ErrSize, at)
	}
	c.locals = append(c.locals, local)
}

func (c *checker) stats(stats []api.Node, s scope) {
	for _, n := range stats {
		c.stat(n, s)
	}
}

// block goes over a block within a procedure's.
func (c *checker) block(n api.Node, context int) {
	c.begin()
	first := len(c.locals)
	c.stats(n.Kids, scope{context, first})
	c.locals = c.locals[:first]
}

func (c *checker) stat(n api.Node, s scope) {
	at := c.begin()
	switch n.Kind {
	case api.NLocal:
		value := c.expr(n.Kids[0], s.context)
		local := localOf(n)
		c.addLocal(local, s.first, at)
		flow(at, local.Label, value, s.context)
	case api.NSet:
		v, index := c.place(n.Kids[0], s.context)
		value := c.expr(n.Kids[1], s.context)
		flow(at, v.Label, value, index, s.context)
	case api.NDo:
		c.call(n.Kids[0], s.context, true)
	case api.NIf, api.NWhile:
		// By E5 what a loop asks is in the loop's own context, though how often
		// it is asked may hang on something high: see README.md.
		asked := c.expr(n.Kids[0], s.context)
		for _, block := range n.Kids[1:] {
			c.block(block, num.Join(s.context, asked))
		}
	case api.NOut:
		value := c.expr(n.Kids[0], s.context)
		flow(at, face.LabelOf(n), value, s.context)
	case api.NIn:
		v, index := c.place(n.Kids[0], s.context)
		input := face.LabelOf(n)
		flow(at, input, s.context)
		flow(at, v.Label, input, index, s.context)
	case api.NReturn:
		// proc keeps those back that stand where one may.
		c.expr(n.Kids[0], s.context)
		refuse(api.ErrForm, at)
	}
}

// expr goes over an expression, and answers its label.
func (c *checker) expr(n api.Node, context int) int {
	switch n.Kind {
	case api.NName, api.NItem:
		v, index := c.place(n, context)
		return num.Join(v.Label, index)
	case api.NCall:
		return c.call(n, context, false).Given
	}
	c.begin()
	label := api.Low
	for _, kid := range n.Kids {
		label = num.Join(label, c.expr(kid, context))
	}
	return label
}

// place goes over an NName or NItem, and answers its variable, and the label of
// which word of it is meant.
func (c *checker) place(n api.Node, context int) (v api.Var, index int) {
	at := c.begin()
	for _, kid := range n.Kids {
		index = c.expr(kid, context)
	}
	v = c.variable(n.Text, at)
	if (v.Size > 0) != (n.Kind == api.NItem) {
		refuse(api.ErrKind, at)
	}
	return v, index
}

// call goes over an NCall, which stands alone if it is an NDo's kid, and
// answers its procedure.
func (c *checker) call(n api.Node, context int, isAlone bool) api.Proc {
	at := c.begin()
	var args []int
	for _, kid := range n.Kids {
		args = append(args, c.expr(kid, context))
	}
	p := c.procedure(n.Text, at)
	if len(args) != len(p.Params) {
		refuse(api.ErrRange, at)
	}
	if !p.Gives && !isAlone {
		refuse(api.ErrKind, at)
	}
	for i, label := range args {
		flow(at, p.Params[i], label)
	}
	flow(at, p.Writes, context)
	return p
}
