package syntax

import (
	"math"
	"slices"
	"strconv"
	"strings"

	"dryshod/api"
)

// How strongly expressions hold together: what binds less stands in parentheses
// where more is asked for.
const (
	bindsPair = iota
	bindsSum
	bindsProduct
	bindsPrefix
	bindsMost
)

type operator struct {
	sign  string
	binds int
}

var operators = [...]operator{
	api.OpAdd:  {"+", bindsSum},
	api.OpSub:  {"-", bindsSum},
	api.OpMul:  {"*", bindsProduct},
	api.OpDiv:  {"/", bindsProduct},
	api.OpMod:  {"%", bindsProduct},
	api.OpAnd:  {"&", bindsProduct},
	api.OpOr:   {"|", bindsSum},
	api.OpLess: {"<", bindsPair},
	api.OpSame: {"==", bindsPair},
}

// opOf answers the operation whose sign this is.
func opOf(sign string) int64 {
	for op, each := range operators {
		if each.sign == sign {
			return int64(op)
		}
	}
	return 0
}

// shape says what the nodes of a kind have: how many NAMEs at most in their
// Text, of what range their Num is, and how many kids they have.
type shape struct {
	names       int
	least, most int64
	few, many   int
}

var shapes = [...]shape{
	api.NModule: {names: 1, many: api.MaxNodes},
	api.NImport: {names: 1},
	api.NVar:    {names: 1, most: api.High + Pub, many: 1},
	api.NProc:   {names: 1, most: api.High + Pub + GivesHigh, few: 1, many: api.MaxNodes},
	api.NParam:  {names: 1, most: api.High},
	api.NBlock:  {many: api.MaxNodes},
	api.NLocal:  {names: 1, most: api.High, few: 1, many: 1},
	api.NSet:    {few: 2, many: 2},
	api.NDo:     {few: 1, many: 1},
	api.NIf:     {few: 2, many: 3},
	api.NWhile:  {few: 2, many: 2},
	api.NOut:    {most: api.High, few: 1, many: 1},
	api.NIn:     {most: api.High, few: 1, many: 1},
	api.NReturn: {few: 1, many: 1},
	api.NNumber: {most: math.MaxInt64},
	api.NName:   {names: 2},
	api.NItem:   {names: 2, few: 1, many: 1},
	api.NCall:   {names: 2, many: api.MaxNodes},
	api.NOp:     {least: api.OpAdd, most: api.OpSame, few: 2, many: 2},
	api.NNeg:    {few: 1, many: 1},
	api.NNot:    {few: 1, many: 1},
}

// misshapen is thrown at a node that is part of no module's.
type misshapen struct{}

// writer has the words that are written.
type writer struct {
	words []string
}

// write answers the words of the module whose node n is.
func write(n api.Node) (words []string, code api.Errno) {
	defer func() {
		switch lost := recover().(type) {
		case nil:
		case misshapen:
			code = api.ErrForm
		default:
			panic(lost)
		}
	}()
	var w writer
	w.module(n)
	return w.words, api.OK
}

// look gives up if n is of none of these kinds, or has not what its kind has.
// Of what kinds its kids are is looked at where they are written.
func look(n api.Node, kinds ...int) {
	if !slices.Contains(kinds, n.Kind) {
		panic(misshapen{})
	}
	s := shapes[n.Kind]
	if n.Num < s.least || n.Num > s.most || len(n.Kids) < s.few || len(n.Kids) > s.many {
		panic(misshapen{})
	}
	if !isText(n.Text, s.names) {
		panic(misshapen{})
	}
}

// isText tells whether text is a name of at most so many NAMEs, or, if none may be, empty.
func isText(text string, names int) bool {
	if names == 0 {
		return text == ""
	}
	words := wordsOf(text)
	return words != nil && len(words) < 2*names
}

// wordsOf answers the words of a name: one NAME, or two with a point between;
// nil, if text is no name.
func wordsOf(text string) []string {
	first, second, isLong := strings.Cut(text, ".")
	switch {
	case !IsName(first):
		return nil
	case !isLong:
		return []string{first}
	case !IsName(second):
		return nil
	}
	return []string{first, ".", second}
}

func (w *writer) put(words ...string) {
	w.words = append(w.words, words...)
}

func (w *writer) putName(text string) {
	w.put(wordsOf(text)...)
}

func (w *writer) putLabel(label int64) {
	if label == api.High {
		w.put("high")
	} else {
		w.put("low")
	}
}

func (w *writer) putNumber(n api.Node) {
	look(n, api.NNumber)
	w.put(strconv.FormatInt(n.Num, 10))
}

func (w *writer) module(n api.Node) {
	look(n, api.NModule)
	w.put("module", n.Text, ";")
	kids := n.Kids
	for len(kids) > 0 && kids[0].Kind == api.NImport {
		look(kids[0], api.NImport)
		w.put("import", kids[0].Text, ";")
		kids = kids[1:]
	}
	for _, decl := range kids {
		w.decl(decl)
	}
}

func (w *writer) decl(n api.Node) {
	look(n, api.NVar, api.NProc)
	if n.Num&Pub != 0 {
		w.put("pub")
	}
	if n.Kind == api.NProc {
		w.proc(n)
		return
	}
	w.putLabel(n.Num & api.High)
	w.put(n.Text)
	if len(n.Kids) > 0 {
		w.put("[")
		w.putNumber(n.Kids[0])
		w.put("]")
	}
	w.put(";")
}

func (w *writer) proc(n api.Node) {
	last := len(n.Kids) - 1
	w.put("proc", n.Text)
	w.list(n.Kids[:last], w.param)
	w.putLabel(n.Num & api.High)
	switch n.Num & (GivesLow | GivesHigh) {
	case GivesLow:
		w.put("gives", "low")
	case GivesHigh:
		w.put("gives", "high")
	}
	w.block(n.Kids[last])
}

func (w *writer) param(n api.Node) {
	look(n, api.NParam)
	w.putLabel(n.Num)
	w.put(n.Text)
}

// list writes items, with a comma between two, in parentheses.
func (w *writer) list(items []api.Node, item func(n api.Node)) {
	w.put("(")
	for at, n := range items {
		if at > 0 {
			w.put(",")
		}
		item(n)
	}
	w.put(")")
}

func (w *writer) block(n api.Node) {
	look(n, api.NBlock)
	w.put("{")
	for _, stat := range n.Kids {
		w.stat(stat)
	}
	w.put("}")
}

func (w *writer) stat(n api.Node) {
	look(n, api.NLocal, api.NSet, api.NDo, api.NIf, api.NWhile, api.NOut, api.NIn, api.NReturn)
	switch n.Kind {
	case api.NIf:
		w.choice(n)
		return
	case api.NWhile:
		w.put("while")
		w.list(n.Kids[:1], w.expr)
		w.block(n.Kids[1])
		return
	case api.NLocal:
		w.putLabel(n.Num)
		w.put(n.Text, "=")
		w.expr(n.Kids[0])
	case api.NSet:
		w.place(n.Kids[0])
		w.put("=")
		w.expr(n.Kids[1])
	case api.NDo:
		look(n.Kids[0], api.NCall)
		w.put("do")
		w.expr(n.Kids[0])
	case api.NOut:
		w.put("out")
		w.putLabel(n.Num)
		w.expr(n.Kids[0])
	case api.NIn:
		w.put("in")
		w.putLabel(n.Num)
		w.place(n.Kids[0])
	case api.NReturn:
		w.put("return")
		w.expr(n.Kids[0])
	}
	w.put(";")
}

func (w *writer) choice(n api.Node) {
	w.put("if")
	w.list(n.Kids[:1], w.expr)
	w.block(n.Kids[1])
	if len(n.Kids) > 2 {
		w.put("else")
		w.block(n.Kids[2])
	}
}

func (w *writer) place(n api.Node) {
	look(n, api.NName, api.NItem)
	w.expr(n)
}

func (w *writer) expr(n api.Node) {
	w.operand(n, bindsPair)
}

// operand writes the expression n, in parentheses if it binds less than least.
func (w *writer) operand(n api.Node, least int) {
	look(n, api.NNumber, api.NName, api.NItem, api.NCall, api.NOp, api.NNeg, api.NNot)
	if binds(n) >= least {
		w.bare(n)
		return
	}
	w.put("(")
	w.bare(n)
	w.put(")")
}

func binds(n api.Node) int {
	switch n.Kind {
	case api.NOp:
		return operators[n.Num].binds
	case api.NNeg, api.NNot:
		return bindsPrefix
	}
	return bindsMost
}

// bare writes the expression n without parentheses around it.
func (w *writer) bare(n api.Node) {
	switch n.Kind {
	case api.NNumber:
		w.putNumber(n)
	case api.NName:
		w.putName(n.Text)
	case api.NItem:
		w.putName(n.Text)
		w.put("[")
		w.expr(n.Kids[0])
		w.put("]")
	case api.NCall:
		w.putName(n.Text)
		w.list(n.Kids, w.expr)
	case api.NOp:
		w.op(n)
	case api.NNeg:
		w.put("-")
		w.operand(n.Kids[0], bindsPrefix)
	case api.NNot:
		w.put("!")
		w.operand(n.Kids[0], bindsPrefix)
	}
}

func (w *writer) op(n api.Node) {
	written := operators[n.Num]
	// Those ahead in a row go together first, but == and < make no row.
	ahead := max(written.binds, bindsSum)
	w.operand(n.Kids[0], ahead)
	w.put(written.sign)
	w.operand(n.Kids[1], written.binds+1)
}
