package model

import (
	"dryshod/api"
	"dryshod/face"
	"dryshod/show"
)

// local is a parameter, or what an NLocal has made.
type local struct {
	name  string
	value int64
}

// frame is a call that has not come back. Check lets no procedure have more
// than MaxLocals locals at once.
type frame struct {
	*run
	module string // the name of the one whose procedure is called
	locals [api.MaxLocals]local
	count  int // of the locals that are there
}

// add makes a local of the block that is being done.
func (f *frame) add(name string, value int64) {
	f.locals[f.count] = local{name, value}
	f.count++
}

func (f *frame) block(n api.Node) {
	outer := f.count
	for _, stat := range n.Kids {
		f.stat(stat)
	}
	f.count = outer
}

func (f *frame) stat(n api.Node) {
	f.Step()
	first := n.Kids[0]
	switch n.Kind {
	case api.NLocal:
		f.add(n.Text, f.expr(first))
	case api.NSet:
		// Whether there is such a word is asked behind the number that it becomes.
		index := f.index(first)
		value := f.expr(n.Kids[1])
		*f.word(first, index) = value
	case api.NDo:
		f.callOf(first)
	case api.NIf:
		f.choose(f.expr(first) != 0, n.Kids[1:])
	case api.NWhile:
		for f.expr(first) != 0 {
			f.block(n.Kids[1])
		}
	case api.NOut:
		f.Out(face.LabelOf(n), f.expr(first))
	case api.NIn:
		index := f.index(first)
		value := f.Take(face.LabelOf(n))
		*f.word(first, index) = value
	case api.NReturn:
		panic(given(f.expr(first)))
	}
}

// choose does the first one of an NIf's blocks, or the second one, if it has one.
func (f *frame) choose(isFirst bool, blocks []api.Node) {
	if isFirst {
		f.block(blocks[0])
	} else if len(blocks) > 1 {
		f.block(blocks[1])
	}
}

func (f *frame) expr(n api.Node) int64 {
	f.Step()
	switch n.Kind {
	case api.NName, api.NItem:
		return *f.word(n, f.index(n))
	case api.NCall:
		return f.callOf(n)
	case api.NOp:
		return show.Reckon(int(n.Num), f.expr(n.Kids[0]), f.expr(n.Kids[1]))
	case api.NNeg:
		return show.Reckon(api.OpSub, 0, f.expr(n.Kids[0]))
	case api.NNot:
		return show.Reckon(api.OpSame, 0, f.expr(n.Kids[0]))
	}
	return n.Num
}

// callOf answers what the call of an NCall gives.
func (f *frame) callOf(n api.Node) int64 {
	var args []int64
	for _, kid := range n.Kids {
		args = append(args, f.expr(kid))
	}
	return f.call(longName(n.Text, f.module), args)
}

// index answers which word a place names: an NName the only one.
func (f *frame) index(n api.Node) int64 {
	if n.Kind == api.NName {
		return 0
	}
	return f.expr(n.Kids[0])
}

// word answers that word of a place's local, variable or array.
func (f *frame) word(n api.Node, index int64) *int64 {
	for i := f.count - 1; i >= 0; i-- {
		if f.locals[i].name == n.Text {
			return &f.locals[i].value
		}
	}
	words := f.vars[longName(n.Text, f.module)]
	if index < 0 || index >= int64(len(words)) {
		panic(show.Ended(api.EndIndex))
	}
	return &words[index]
}
