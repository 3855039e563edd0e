package syntax

import (
	"slices"
	"strconv"
	"strings"
	"testing"

	"dryshod/api"
	"dryshod/lex"
)

// everythingText has each form of the chapter's table, and each sign.
const everythingText = `
module m ; import a ; import b2 ; low x ; pub high y [ 64 ] ; pub low z ; high w [ 0 ] ;
proc p ( ) low { }
pub proc q ( low a ) high gives low { return ( 1 + a ) * - m . x ; }
pub proc r ( low a , high b ) low gives high {
  low c = a == b ; high d = a < b | c ;
  x = 1 ; b . x = a - b - c ; y [ x ] = a - ( b - c ) ; b . y [ 1 + 2 ] = ! a & b ;
  do f ( ) ; do b . f ( 1 , a / b % c , ( a < b ) < c ) ;
  if ( x ) { } if ( ! ! x ) { out low 1 ; } else { out high - ( a | b ) ; in low x ; }
  while ( f ( x ) ) { in high b . y [ f ( ) ] ; return g ( h ( ) ) ; }
}`

func everything() api.Node {
	a, b, c := name("a"), name("b"), name("c")
	params := []api.Node{node(api.NParam, "a", 0), node(api.NParam, "b", 1)}
	stats := []api.Node{
		node(api.NLocal, "c", 0, op(api.OpSame, a, b)),
		node(api.NLocal, "d", 1, op(api.OpLess, a, op(api.OpOr, b, c))),
		set(name("x"), number(1)),
		set(name("b.x"), op(api.OpSub, op(api.OpSub, a, b), c)),
		set(item("y", name("x")), op(api.OpSub, a, op(api.OpSub, b, c))),
		set(item("b.y", op(api.OpAdd, number(1), number(2))), op(api.OpAnd, not(a), b)),
		node(api.NDo, "", 0, call("f")),
		node(api.NDo, "", 0, call("b.f", number(1), op(api.OpMod, op(api.OpDiv, a, b), c), op(api.OpLess, op(api.OpLess, a, b), c))),
		node(api.NIf, "", 0, name("x"), block()),
		node(api.NIf, "", 0, not(not(name("x"))), block(output(number(1))),
			block(node(api.NOut, "", 1, neg(op(api.OpOr, a, b))), node(api.NIn, "", 0, name("x")))),
		node(api.NWhile, "", 0, call("f", name("x")),
			block(node(api.NIn, "", 1, item("b.y", call("f"))), node(api.NReturn, "", 0, call("g", call("h"))))),
	}
	return module(node(api.NImport, "a", 0), node(api.NImport, "b2", 0), variable(0), node(api.NVar, "y", 3, number(64)),
		node(api.NVar, "z", 2), node(api.NVar, "w", 1, number(0)), node(api.NProc, "p", 0, block()),
		node(api.NProc, "q", 7, params[0], block(node(api.NReturn, "", 0, op(api.OpMul, op(api.OpAdd, number(1), a), neg(name("m.x")))))),
		node(api.NProc, "r", 10, params[0], params[1], block(stats...)))
}

// renamed answers n with text at the first node of this kind.
func renamed(n api.Node, kind int, text string) api.Node {
	done := false
	return changed(n, func(n *api.Node) {
		if n.Kind == kind && !done {
			n.Text, done = text, true
		}
	})
}

// changed answers a copy of n, each of whose nodes change has gone over.
func changed(n api.Node, change func(n *api.Node)) api.Node {
	change(&n)
	kids := slices.Clone(n.Kids)
	for i := range kids {
		kids[i] = changed(kids[i], change)
	}
	n.Kids = kids
	return n
}

// grammar tells the chapter's tables again: a form, and its parts. NAME and NUMBER are tokens, as is what has no rule.
const grammar = `
start: module NAME ; imports decls
imports:
imports: imports import NAME ;
decls:
decls: decls decl
label: low
label: high
pub:
pub: pub
decl: pub label NAME ;
decl: pub label NAME [ NUMBER ]  ;
decl: pub proc NAME ( ) label gives block
decl: pub proc NAME ( params ) label gives block
params: label NAME
params: params , label NAME
gives:
gives: gives label
block: { stats }
stats:
stats: stats stat
stat: label NAME = expr ;
stat: place = expr ;
stat: do call ;
stat: if ( expr ) block
stat: if ( expr ) block else block
stat: while ( expr ) block
stat: out label expr ;
stat: in label place ;
stat: return expr ;
name: NAME
name: NAME . NAME
place: name
place: name [ expr ]
call: name ( )
call: name ( exprs )
exprs: expr
exprs: exprs , expr
expr: sum
expr: sum == sum
expr: sum < sum
sum: product
sum: sum + product
sum: sum - product
sum: sum | product
product: prefixed
product: product * prefixed
product: product / prefixed
product: product % prefixed
product: product & prefixed
prefixed: - prefixed
prefixed: ! prefixed
prefixed: NUMBER
prefixed: place
prefixed: call
prefixed: ( expr )`

// The words that are also names of forms stand for tokens inside of their own rules.
var bothWays = []string{"pub", "gives"}

type rule struct {
	form  string
	parts []string
}

// place is a rule that is read as far as its part at, from the token from on.
type place struct {
	rule, at, from int
}

func rules() []rule {
	var all []rule
	for _, line := range strings.Split(strings.TrimSpace(grammar), "\n") {
		form, parts, _ := strings.Cut(line, ":")
		all = append(all, rule{form, strings.Fields(parts)})
	}
	return all
}

// earley tells how many tokens ahead a module begins with, and whether all of them are one.
func earley(all []rule, tokens []api.Token) (int, bool) {
	isForm := func(r rule, part string) bool {
		if slices.Contains(bothWays, part) {
			return r.form != part
		}
		return slices.ContainsFunc(all, func(r rule) bool { return r.form == part })
	}
	sets := [][]place{{{0, 0, 0}}}
	for at := 0; ; at++ {
		add := func(p place) bool {
			if slices.Contains(sets[at], p) {
				return false
			}
			sets[at] = append(sets[at], p)
			return true
		}
		for grown := true; grown; {
			grown = false
			for i := 0; i < len(sets[at]); i++ {
				p := sets[at][i]
				r := all[p.rule]
				if p.at == len(r.parts) {
					for _, q := range sets[p.from] {
						if s := all[q.rule]; q.at < len(s.parts) && s.parts[q.at] == r.form && isForm(s, r.form) {
							grown = add(place{q.rule, q.at + 1, q.from}) || grown
						}
					}
				} else if isForm(r, r.parts[p.at]) {
					for j, s := range all {
						if s.form == r.parts[p.at] {
							grown = add(place{j, 0, at}) || grown
						}
					}
				}
			}
		}
		if at == len(tokens) {
			return at, slices.Contains(sets[at], place{0, len(all[0].parts), 0})
		}
		var next []place
		for _, p := range sets[at] {
			r := all[p.rule]
			if p.at < len(r.parts) && !isForm(r, r.parts[p.at]) && isPart(r.parts[p.at], tokens[at]) {
				next = append(next, place{p.rule, p.at + 1, p.from})
			}
		}
		if len(next) == 0 {
			return at, false
		}
		sets = append(sets, next)
	}
}

func isPart(part string, token api.Token) bool {
	switch part {
	case "NUMBER":
		return token.Kind == api.KNumber
	case "NAME":
		return token.Kind == api.KWord && !slices.Contains(strings.Fields("do else gives high if import in low module out proc pub return while"), token.Text)
	}
	return part == token.Text
}

func tryTelling(t *testing.T, all []rule, text string) {
	t.Helper()
	tokens, f := lex.Scan(text)
	if f.Code != api.OK {
		t.Fatalf("Scan(%q): %v", text, f)
	}
	count, whole := earley(all, tokens)
	n, f := Parse(text)
	switch {
	case whole && f == (api.Fault{}) && n.Kind == api.NModule:
	case whole && f == (api.Fault{Code: api.ErrSize}):
	case !whole && count == len(tokens) && f == (api.Fault{Code: api.ErrForm, At: len(text)}):
	case !whole && count < len(tokens) && f == (api.Fault{Code: api.ErrForm, At: tokens[count].At}):
	default:
		t.Errorf("Parse(%q): %v; the tables: %d tokens, %v", text, f, count, whole)
	}
}

var alphabet = strings.Fields("module import low high pub proc gives do if else while out in return n 7 { } ( ) [ ] ; , . = == < + - * / % & | !")

// C1, C2, C3: a text with one token more, less or other, and each beginning of it, against the chapter's tables told again.
func TestC3Tables(t *testing.T) {
	all := rules()
	words := strings.Fields(`module m ; import a ; pub low x [ 3 ] ; high y ; pub proc p ( low a , high b ) low gives high {
		low c = a . b < 1 ; x [ 1 ] = ( a == b ) + f ( c , - d ) * 2 ; do g ( ) ; if ( c ) { in low x ; } else { out high ! y ; }
		while ( 1 ) { return a . z [ 2 ] ; } }`)
	for at := range words {
		tryTelling(t, all, strings.Join(words[:at], " "))
		tryTelling(t, all, strings.Join(slices.Concat(words[:at], words[at+1:]), " "))
		for _, other := range alphabet {
			tryTelling(t, all, strings.Join(slices.Concat(words[:at], []string{other}, words[at+1:]), " "))
			tryTelling(t, all, strings.Join(slices.Concat(words[:at], []string{other}, words[at:]), " "))
		}
	}
}

// C2, C3: all rows of three tokens where an expression is asked for, and where a statement or a declaration is.
func TestC3Rows(t *testing.T) {
	all := rules()
	few := strings.Fields("n 7 ( ) [ ] . , ; == + * - !")
	for _, a := range few {
		for _, b := range few {
			for _, c := range few {
				for _, d := range few {
					tryTelling(t, all, "module m;proc p()low{return "+strings.Join([]string{a, b, c, d}, " ")+";}")
				}
			}
		}
	}
	for _, a := range alphabet {
		for _, b := range alphabet {
			tryTelling(t, all, "module m;"+a+" "+b)
			tryTelling(t, all, "module m;low x;"+a+" "+b)
			tryTelling(t, all, "module m;proc p()low{"+a+" "+b)
			tryTelling(t, all, "module m;proc p()low{if(1){}"+a+" "+b)
		}
	}
}

// loose tells a node as a text, with parentheses around each expression, whatever stands in it.
func loose(n api.Node) string {
	kid := func(i int) string {
		if i < len(n.Kids) {
			return loose(n.Kids[i])
		}
		return ""
	}
	joined := func(kids []api.Node, between string) string {
		var texts []string
		for _, kid := range kids {
			texts = append(texts, loose(kid))
		}
		return strings.Join(texts, between)
	}
	label := "low "
	if n.Num&1 == 1 {
		label = "high "
	}
	switch n.Kind {
	case api.NModule:
		return "module " + n.Text + ";" + joined(n.Kids, "")
	case api.NImport:
		return "import " + n.Text + ";"
	case api.NVar, api.NProc:
		return looseDecl(n, label, kid, joined)
	case api.NParam:
		return label + n.Text
	case api.NBlock:
		return "{" + joined(n.Kids, "") + "}"
	case api.NLocal:
		return label + n.Text + "=" + kid(0) + ";"
	case api.NSet:
		return strings.Trim(kid(0), "()") + "=" + kid(1) + ";"
	case api.NDo:
		text := kid(0)
		return "do " + strings.TrimSuffix(strings.TrimPrefix(text, "("), ")") + ";"
	case api.NIf:
		text := "if(" + kid(0) + ")" + kid(1)
		if len(n.Kids) > 2 {
			text += "else" + kid(2)
		}
		return text
	case api.NWhile:
		return "while(" + kid(0) + ")" + kid(1)
	case api.NOut:
		return "out " + label + kid(0) + ";"
	case api.NIn:
		return "in " + label + strings.Trim(kid(0), "()") + ";"
	case api.NReturn:
		return "return " + kid(0) + ";"
	case api.NNumber:
		return "(" + strconv.FormatInt(n.Num, 10) + ")"
	case api.NName:
		return "(" + n.Text + ")"
	case api.NItem:
		return "(" + n.Text + "[" + kid(0) + "])"
	case api.NCall:
		return "(" + n.Text + "(" + joined(n.Kids, ",") + "))"
	case api.NOp:
		signs := strings.Fields("+ - * / % & | < ==")
		if n.Num < 1 || n.Num > 9 {
			return "?"
		}
		return "(" + kid(0) + signs[n.Num-1] + kid(1) + ")"
	case api.NNeg:
		return "(-" + kid(0) + ")"
	case api.NNot:
		return "(!" + kid(0) + ")"
	}
	return "?"
}

func looseDecl(n api.Node, label string, kid func(int) string, joined func([]api.Node, string) string) string {
	text := ""
	if n.Num&2 != 0 {
		text = "pub "
	}
	if n.Kind == api.NVar {
		if len(n.Kids) > 0 {
			return text + label + n.Text + "[" + strings.Trim(kid(0), "()") + "];"
		}
		return text + label + n.Text + ";"
	}
	if len(n.Kids) == 0 {
		return "?"
	}
	last := len(n.Kids) - 1
	text += "proc " + n.Text + "(" + joined(n.Kids[:last], ",") + ")" + label
	if n.Num&12 == 4 {
		text += "gives low"
	} else if n.Num&12 == 8 {
		text += "gives high"
	}
	return text + kid(last)
}

// C4: a module with every kind, one node of it changed in each field: Print refuses just what no text is read as.
func TestC4Changed(t *testing.T) {
	good, bad := 0, 0
	try := func(n api.Node) {
		got, f := Parse(loose(n))
		isModule := f == (api.Fault{}) && same(got, n)
		text, e := Print(n)
		if isModule {
			good++
			again, f := Parse(text)
			if e != api.OK || f != (api.Fault{}) || !same(again, n) {
				t.Errorf("Print = %q, %d of %q", text, e, loose(n))
			}
			return
		}
		bad++
		if e != api.ErrForm || text != "" {
			t.Errorf("Print = %q, %d, but no text is read as %q", text, e, loose(n))
		}
	}
	// count says at which node it is; each change is made to each of them.
	total := 0
	changed(everything(), func(*api.Node) { total++ })
	at := func(which int, change func(n *api.Node)) api.Node {
		seen := 0
		return changed(everything(), func(n *api.Node) {
			if seen == which {
				change(n)
			}
			seen++
		})
	}
	for which := range total {
		for kind := -1; kind <= 23; kind++ {
			try(at(which, func(n *api.Node) { n.Kind = kind }))
		}
		for _, num := range []int64{-1, 0, 1, 2, 3, 4, 5, 8, 9, 10, 11, 12, 13, 16, 1 << 62, -1 << 63} {
			try(at(which, func(n *api.Node) { n.Num = num }))
		}
		for _, text := range []string{"", "a", "a.b", "a.b.c", ".", "a ", "low", "a.low", "1", "a=1;b"} {
			try(at(which, func(n *api.Node) { n.Text = text }))
		}
		for _, kid := range []api.Node{{}, number(1), name("a"), call("f"), block(), output(number(1)), variable(0), node(api.NParam, "a", 0), node(api.NImport, "a", 0)} {
			try(at(which, func(n *api.Node) { n.Kids = slices.Concat(n.Kids, []api.Node{kid}) }))
			try(at(which, func(n *api.Node) { n.Kids = slices.Concat([]api.Node{kid}, n.Kids) }))
			try(at(which, func(n *api.Node) { n.Kids = []api.Node{kid} }))
		}
		try(at(which, func(n *api.Node) { n.Kids = nil }))
		try(at(which, func(n *api.Node) { n.Kids = n.Kids[:max(0, len(n.Kids)-1)] }))
		try(at(which, func(n *api.Node) { n.Kids = n.Kids[min(1, len(n.Kids)):] }))
	}
	if good < 100 || bad < 100 {
		t.Errorf("%d good, %d bad: too few", good, bad)
	}
}

// expressions answers all of at most this many levels, of few leaves and one operation a level.
func expressions(levels int) []api.Node {
	leaves := []api.Node{name("a"), call("f", op(api.OpSame, number(1), number(2)))}
	if levels == 1 {
		return leaves[:1]
	}
	inner := expressions(levels - 1)
	all := slices.Clone(leaves)
	for _, a := range inner {
		all = append(all, neg(a), not(a), item("x", a))
		for _, b := range inner {
			for _, num := range []int64{api.OpSame, api.OpLess, api.OpAdd, api.OpSub, api.OpMul, api.OpAnd} {
				all = append(all, op(num, a, b))
			}
		}
	}
	return all
}

// C4, C5: parentheses just where they are needed: with a pair less another node is read, or none.
func TestC4Parentheses(t *testing.T) {
	base := expressions(3)
	all := slices.Clone(base)
	for i, a := range base {
		for _, num := range []int64{api.OpDiv, api.OpMod, api.OpOr} {
			all = append(all, op(num, a, base[i*7%len(base)]), op(num, base[i*5%len(base)], a))
		}
	}
	pairs := 0
	for _, e := range all {
		n := inProc(node(api.NReturn, "", 0, e))
		text, code := Print(n)
		if code != api.OK {
			t.Fatalf("Print(%v): %d", n, code)
		}
		tryNode(t, text, n)
		words := strings.Fields(text)
		var open []int
		for at, word := range words {
			switch word {
			case "(":
				open = append(open, at)
			case ")":
				from := open[len(open)-1]
				open = open[:len(open)-1]
				pairs++
				less := slices.Concat(words[:from], words[from+1:at], words[at+1:])
				if got, f := Parse(strings.Join(less, " ")); f == (api.Fault{}) && same(got, n) {
					t.Errorf("%q: parentheses that are not needed", text)
				}
			}
		}
	}
	if pairs < 1000 {
		t.Errorf("%d pairs: too few", pairs)
	}
}
