package syntax

import (
	"slices"
	"strconv"

	"dryshod/api"
)

// reader has the tokens of a text that are not taken yet.
type reader struct {
	tokens []api.Token
}

// strange is thrown at a token with which, behind those ahead, no module begins.
type strange struct {
	at int
}

// short is thrown where the tokens end, and more of them are asked for.
type short struct{}

// read answers the node of the module whose tokens these are; their text ends at end.
func read(tokens []api.Token, end int) (module api.Node, fault api.Fault) {
	defer func() {
		switch lost := recover().(type) {
		case nil:
		case strange:
			fault = api.Fault{Code: api.ErrForm, At: lost.at}
		case short:
			fault = api.Fault{Code: api.ErrForm, At: end}
		default:
			panic(lost)
		}
	}()
	r := reader{tokens}
	return r.module(), api.Fault{}
}

func (r *reader) giveUp() {
	if len(r.tokens) == 0 {
		panic(short{})
	}
	panic(strange{r.tokens[0].At})
}

// has tells whether the next token is one of words.
func (r *reader) has(words ...string) bool {
	return len(r.tokens) > 0 && slices.Contains(words, r.tokens[0].Text)
}

// skip takes the next token if it is one of words, and tells whether it was.
func (r *reader) skip(words ...string) bool {
	found := r.has(words...)
	if found {
		r.next()
	}
	return found
}

// take takes the next token, which must be one of words.
func (r *reader) take(words ...string) string {
	if !r.has(words...) {
		r.giveUp()
	}
	return r.next()
}

func (r *reader) next() string {
	text := r.tokens[0].Text
	r.tokens = r.tokens[1:]
	return text
}

func (r *reader) module() api.Node {
	r.take("module")
	n := api.Node{Kind: api.NModule, Text: r.name()}
	r.take(";")
	for r.skip("import") {
		n.Kids = append(n.Kids, r.ended(api.Node{Kind: api.NImport, Text: r.name()}))
	}
	for len(r.tokens) > 0 {
		n.Kids = append(n.Kids, r.decl())
	}
	return n
}

// ended takes the ; behind all that n is of.
func (r *reader) ended(n api.Node) api.Node {
	r.take(";")
	return n
}

func (r *reader) decl() api.Node {
	pub := int64(0)
	if r.skip("pub") {
		pub = Pub
	}
	if r.skip("proc") {
		return r.proc(pub)
	}
	label := r.label()
	n := api.Node{Kind: api.NVar, Text: r.name(), Num: label + pub}
	if r.skip("[") {
		n.Kids = []api.Node{r.number()}
		r.take("]")
	}
	return r.ended(n)
}

// proc reads a procedure behind its first word.
func (r *reader) proc(pub int64) api.Node {
	n := api.Node{Kind: api.NProc, Text: r.name()}
	r.take("(")
	n.Kids = r.list(r.param)
	n.Num = r.label() + pub
	if r.skip("gives") {
		n.Num += GivesLow
		if r.label() == api.High {
			n.Num += GivesHigh - GivesLow
		}
	}
	n.Kids = append(n.Kids, r.block())
	return n
}

func (r *reader) param() api.Node {
	label := r.label()
	return api.Node{Kind: api.NParam, Text: r.name(), Num: label}
}

// list reads any number of items behind a (, with a comma between two, and the ) behind them.
func (r *reader) list(item func() api.Node) []api.Node {
	if r.skip(")") {
		return nil
	}
	items := []api.Node{item()}
	for r.take(",", ")") == "," {
		items = append(items, item())
	}
	return items
}

func (r *reader) block() api.Node {
	n := api.Node{Kind: api.NBlock}
	r.take("{")
	for !r.skip("}") {
		n.Kids = append(n.Kids, r.stat())
	}
	return n
}

func (r *reader) stat() api.Node {
	switch {
	case r.has("low", "high"):
		return r.ended(r.local())
	case r.skip("do"):
		name := r.longName()
		r.take("(")
		return r.ended(api.Node{Kind: api.NDo, Kids: []api.Node{r.call(name)}})
	case r.skip("if"):
		return r.choice()
	case r.skip("while"):
		return api.Node{Kind: api.NWhile, Kids: []api.Node{r.enclosed(), r.block()}}
	case r.skip("out"):
		label := r.label()
		return r.ended(api.Node{Kind: api.NOut, Num: label, Kids: []api.Node{r.expr()}})
	case r.skip("in"):
		label := r.label()
		return r.ended(api.Node{Kind: api.NIn, Num: label, Kids: []api.Node{r.place(r.longName())}})
	case r.skip("return"):
		return r.ended(api.Node{Kind: api.NReturn, Kids: []api.Node{r.expr()}})
	}
	return r.ended(r.set())
}

func (r *reader) local() api.Node {
	label := r.label()
	n := api.Node{Kind: api.NLocal, Text: r.name(), Num: label}
	r.take("=")
	n.Kids = []api.Node{r.expr()}
	return n
}

func (r *reader) set() api.Node {
	place := r.place(r.longName())
	r.take("=")
	return api.Node{Kind: api.NSet, Kids: []api.Node{place, r.expr()}}
}

// choice reads what stands behind if.
func (r *reader) choice() api.Node {
	n := api.Node{Kind: api.NIf, Kids: []api.Node{r.enclosed(), r.block()}}
	if r.skip("else") {
		n.Kids = append(n.Kids, r.block())
	}
	return n
}

// enclosed reads an expression with its parentheses.
func (r *reader) enclosed() api.Node {
	r.take("(")
	n := r.expr()
	r.take(")")
	return n
}

func (r *reader) expr() api.Node {
	n := r.sum()
	if r.has("==", "<") {
		n = r.op(n, r.sum)
	}
	return n
}

func (r *reader) sum() api.Node {
	n := r.product()
	for r.has("+", "-", "|") {
		n = r.op(n, r.product)
	}
	return n
}

func (r *reader) product() api.Node {
	n := r.prefixed()
	for r.has("*", "/", "%", "&") {
		n = r.op(n, r.prefixed)
	}
	return n
}

// op reads the sign behind left, and what stands behind it.
func (r *reader) op(left api.Node, right func() api.Node) api.Node {
	op := opOf(r.next())
	return api.Node{Kind: api.NOp, Num: op, Kids: []api.Node{left, right()}}
}

func (r *reader) prefixed() api.Node {
	switch {
	case r.skip("-"):
		return api.Node{Kind: api.NNeg, Kids: []api.Node{r.prefixed()}}
	case r.skip("!"):
		return api.Node{Kind: api.NNot, Kids: []api.Node{r.prefixed()}}
	}
	return r.atom()
}

func (r *reader) atom() api.Node {
	switch {
	case r.has("("):
		return r.enclosed()
	case len(r.tokens) > 0 && r.tokens[0].Kind == api.KNumber:
		return r.number()
	}
	name := r.longName()
	if r.skip("(") {
		return r.call(name)
	}
	return r.place(name)
}

// call reads a call behind its (.
func (r *reader) call(name string) api.Node {
	return api.Node{Kind: api.NCall, Text: name, Kids: r.list(r.expr)}
}

// place reads a place behind its name.
func (r *reader) place(name string) api.Node {
	if !r.skip("[") {
		return api.Node{Kind: api.NName, Text: name}
	}
	n := api.Node{Kind: api.NItem, Text: name, Kids: []api.Node{r.expr()}}
	r.take("]")
	return n
}

// longName reads one NAME, or two with a point between.
func (r *reader) longName() string {
	name := r.name()
	if r.skip(".") {
		name += "." + r.name()
	}
	return name
}

func (r *reader) name() string {
	if len(r.tokens) == 0 || !isNameToken(r.tokens[0]) {
		r.giveUp()
	}
	return r.next()
}

func (r *reader) number() api.Node {
	if len(r.tokens) == 0 || r.tokens[0].Kind != api.KNumber {
		r.giveUp()
	}
	// A KNumber has digits alone, and is not too great: nothing can be wrong.
	num, _ := strconv.ParseInt(r.next(), 10, 64)
	return api.Node{Kind: api.NNumber, Num: num}
}

func (r *reader) label() int64 {
	if r.take("low", "high") == "high" {
		return api.High
	}
	return api.Low
}
