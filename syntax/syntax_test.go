package syntax

import (
	"math"
	"reflect"
	"strconv"
	"strings"
	"testing"

	"dryshod/api"
)

func node(kind int, text string, num int64, kids ...api.Node) api.Node {
	return api.Node{Kind: kind, Text: text, Num: num, Kids: kids}
}

func module(kids ...api.Node) api.Node      { return node(api.NModule, "m", 0, kids...) }
func variable(num int64) api.Node           { return node(api.NVar, "x", num) }
func block(kids ...api.Node) api.Node       { return node(api.NBlock, "", 0, kids...) }
func number(num int64) api.Node             { return node(api.NNumber, "", num) }
func name(text string) api.Node             { return node(api.NName, text, 0) }
func op(num int64, a, b api.Node) api.Node  { return node(api.NOp, "", num, a, b) }
func neg(a api.Node) api.Node               { return node(api.NNeg, "", 0, a) }
func not(a api.Node) api.Node               { return node(api.NNot, "", 0, a) }
func output(a api.Node) api.Node            { return node(api.NOut, "", 0, a) }
func set(a, b api.Node) api.Node            { return node(api.NSet, "", 0, a, b) }
func inProc(stats ...api.Node) api.Node     { return module(node(api.NProc, "p", 0, block(stats...))) }
func item(text string, a api.Node) api.Node { return node(api.NItem, text, 0, a) }
func call(text string, kids ...api.Node) api.Node {
	return node(api.NCall, text, 0, kids...)
}

// same tells whether two nodes are the same; an empty list may be nil or not.
func same(a, b api.Node) bool {
	if a.Kind != b.Kind || a.Text != b.Text || a.Num != b.Num || len(a.Kids) != len(b.Kids) {
		return false
	}
	for i := range a.Kids {
		if !same(a.Kids[i], b.Kids[i]) {
			return false
		}
	}
	return true
}

func tryNode(t *testing.T, text string, want api.Node) {
	t.Helper()
	if got, f := Parse(text); f != (api.Fault{}) || !same(got, want) {
		t.Errorf("Parse(%q) = %v, %v; want %v", text, got, f, want)
	}
}

func tryFault(t *testing.T, text string, code api.Errno, at int) {
	t.Helper()
	got, f := Parse(text)
	if f != (api.Fault{Code: code, At: at}) || !reflect.DeepEqual(got, api.Node{}) {
		t.Errorf("Parse(%.80q) = %v, %v; want the fault %d at %d", text, got, f, code, at)
	}
}

func tryPrint(t *testing.T, n api.Node, want string) {
	t.Helper()
	if got, e := Print(n); got != want || e != api.OK {
		t.Errorf("Print(%v) = %q, %d; want %q", n, got, e, want)
	}
}

func tryRefused(t *testing.T, n api.Node, want api.Errno) {
	t.Helper()
	if got, e := Print(n); got != "" || e != want {
		t.Errorf("Print(%.200q) = %.80q, %d; want the error %d", n.Text, got, e, want)
	}
}

// stats stands inside of a procedure.
func stats(text string) string { return "module m;proc p()low{" + text + "}" }

// C1: modules, imports and variables.
func TestC1Modules(t *testing.T) {
	tryNode(t, "module m;", module())
	tryNode(t, "module m;import a;import b;", module(node(api.NImport, "a", 0), node(api.NImport, "b", 0)))
	tryNode(t, "module m;low x;", module(variable(0)))
	tryNode(t, "module m;high x;", module(variable(1)))
	tryNode(t, "module m;pub low x;", module(variable(2)))
	tryNode(t, "module m;pub high x;", module(variable(3)))
	tryNode(t, "module m;pub high x[0];", module(node(api.NVar, "x", 3, number(0))))
	tryNode(t, "module m;low x[9223372036854775807];", module(node(api.NVar, "x", 0, number(math.MaxInt64))))
	tryNode(t, "module m;import m;low x;high x;proc p()low{}low y;", module(node(api.NImport, "m", 0), variable(0), variable(1),
		node(api.NProc, "p", 0, block()), node(api.NVar, "y", 0)))
}

// C1: each way to begin a procedure.
func TestC1Procs(t *testing.T) {
	for num, head := range map[int64]string{
		0: "proc p()low", 1: "proc p()high", 2: "pub proc p()low", 3: "pub proc p()high",
		4: "proc p()low gives low", 5: "proc p()high gives low", 6: "pub proc p()low gives low", 7: "pub proc p()high gives low",
		8: "proc p()low gives high", 9: "proc p()high gives high", 10: "pub proc p()low gives high", 11: "pub proc p()high gives high",
	} {
		tryNode(t, "module m;"+head+"{}", module(node(api.NProc, "p", num, block())))
	}
	tryNode(t, "module m;proc p(high a)low{}", module(node(api.NProc, "p", 0, node(api.NParam, "a", 1), block())))
	tryNode(t, "module m;proc p(low a,high b,low a)low{}", module(node(api.NProc, "p", 0,
		node(api.NParam, "a", 0), node(api.NParam, "b", 1), node(api.NParam, "a", 0), block())))
}

// C1: each statement.
func TestC1Stats(t *testing.T) {
	for text, want := range map[string]api.Node{
		"low a=1;":              node(api.NLocal, "a", 0, number(1)),
		"high a=b;":             node(api.NLocal, "a", 1, name("b")),
		"a=1;":                  set(name("a"), number(1)),
		"b.a=c;":                set(name("b.a"), name("c")),
		"a[1]=2;":               set(item("a", number(1)), number(2)),
		"b.a[c[d.e]]=2;":        set(item("b.a", item("c", name("d.e"))), number(2)),
		"do f();":               node(api.NDo, "", 0, call("f")),
		"do m.f(1,g(),(x));":    node(api.NDo, "", 0, call("m.f", number(1), call("g"), name("x"))),
		"if(1){}":               node(api.NIf, "", 0, number(1), block()),
		"if(1){out low 1;}":     node(api.NIf, "", 0, number(1), block(output(number(1)))),
		"if(1){}else{a=1;b=2;}": node(api.NIf, "", 0, number(1), block(), block(set(name("a"), number(1)), set(name("b"), number(2)))),
		"while(x){while(y){}}":  node(api.NWhile, "", 0, name("x"), block(node(api.NWhile, "", 0, name("y"), block()))),
		"out low x;":            output(name("x")),
		"out high-1;":           node(api.NOut, "", 1, neg(number(1))),
		"in low x;":             node(api.NIn, "", 0, name("x")),
		"in high m.x[1];":       node(api.NIn, "", 1, item("m.x", number(1))),
		"return m.f(x);":        node(api.NReturn, "", 0, call("m.f", name("x"))),
	} {
		tryNode(t, stats(text), inProc(want))
		tryNode(t, stats(text+text), inProc(want, want))
	}
}

// C1: the words that are no NAME, wherever one is asked for; others are, also of other case.
func TestC1Names(t *testing.T) {
	reserved := strings.Fields("do else gives high if import in low module out proc pub return while")
	for _, word := range reserved {
		tryFault(t, "module "+word+";", api.ErrForm, 7)
		tryFault(t, "module m;import "+word+";", api.ErrForm, 16)
		tryFault(t, "module m;low "+word+";", api.ErrForm, 13)
		tryFault(t, "module m;proc "+word+"()low{}", api.ErrForm, 14)
		tryFault(t, "module m;proc p(low "+word+")low{}", api.ErrForm, 20)
		tryFault(t, stats("low "+word+"=1;"), api.ErrForm, 25)
		tryFault(t, stats("x=a."+word+";"), api.ErrForm, 25)
		tryFault(t, stats("x="+word+";"), api.ErrForm, 23)
		tryFault(t, stats("in low "+word+";"), api.ErrForm, 28)
		tryFault(t, stats("do "+word+"();"), api.ErrForm, 24)
		for _, kind := range []int{api.NModule, api.NImport, api.NVar, api.NProc, api.NParam, api.NLocal, api.NName, api.NItem, api.NCall} {
			tryRefused(t, renamed(everything(), kind, word), api.ErrForm)
			tryRefused(t, renamed(everything(), kind, word+".a"), api.ErrForm)
			tryRefused(t, renamed(everything(), kind, "a."+word), api.ErrForm)
		}
		for _, other := range []string{word + "s", "a" + word, strings.ToUpper(word), word + "_", word + "1"} {
			tryNode(t, "module "+other+";", node(api.NModule, other, 0))
			tryPrint(t, node(api.NModule, other, 0), "module "+other+" ;")
		}
	}
	for _, word := range strings.Fields("a A gives_ Do to then true abcdefghijklmnop") {
		tryNode(t, "module "+word+";", node(api.NModule, word, 0))
	}
}

// C2: what binds more, and what goes together first.
func TestC2Expressions(t *testing.T) {
	a, b, c, d := name("a"), name("b"), name("c"), name("d")
	for text, want := range map[string]api.Node{
		"a==b":          op(api.OpSame, a, b),
		"a<b":           op(api.OpLess, a, b),
		"a+b":           op(api.OpAdd, a, b),
		"a-b":           op(api.OpSub, a, b),
		"a|b":           op(api.OpOr, a, b),
		"a*b":           op(api.OpMul, a, b),
		"a/b":           op(api.OpDiv, a, b),
		"a%b":           op(api.OpMod, a, b),
		"a&b":           op(api.OpAnd, a, b),
		"-a":            neg(a),
		"!a":            not(a),
		"a+b-c|d":       op(api.OpOr, op(api.OpSub, op(api.OpAdd, a, b), c), d),
		"a*b/c%d":       op(api.OpMod, op(api.OpDiv, op(api.OpMul, a, b), c), d),
		"a-(b-c)":       op(api.OpSub, a, op(api.OpSub, b, c)),
		"a|b&c":         op(api.OpOr, a, op(api.OpAnd, b, c)),
		"a&b|c":         op(api.OpOr, op(api.OpAnd, a, b), c),
		"(a|b)&c":       op(api.OpAnd, op(api.OpOr, a, b), c),
		"a+b==c*d":      op(api.OpSame, op(api.OpAdd, a, b), op(api.OpMul, c, d)),
		"a<b|c":         op(api.OpLess, a, op(api.OpOr, b, c)),
		"(a==b)==c":     op(api.OpSame, op(api.OpSame, a, b), c),
		"a<(b==c)":      op(api.OpLess, a, op(api.OpSame, b, c)),
		"-a*b":          op(api.OpMul, neg(a), b),
		"-(a*b)":        neg(op(api.OpMul, a, b)),
		"a*-b":          op(api.OpMul, a, neg(b)),
		"a--b":          op(api.OpSub, a, neg(b)),
		"!-!a":          not(neg(not(a))),
		"!a==b":         op(api.OpSame, not(a), b),
		"-1":            neg(number(1)),
		"((a))":         a,
		"(((a+b)))":     op(api.OpAdd, a, b),
		"-m.x[a+b]":     neg(item("m.x", op(api.OpAdd, a, b))),
		"f(a==b,-c)+d":  op(api.OpAdd, call("f", op(api.OpSame, a, b), neg(c)), d),
		"a%b[c<d]":      op(api.OpMod, a, item("b", op(api.OpLess, c, d))),
		"0":             number(0),
		"a= =b":         {},
		"a==b<c":        {},
		"a<b==c":        {},
		"a!b":           {},
		"+a":            {},
		"a b":           {},
		"(a":            {},
		"a)":            {},
		"()":            {},
		"":              {},
		"f(a,)":         {},
		"f(,a)":         {},
		"f()()":         {},
		"a[]":           {},
		"a[b][c]":       {},
		"a.b.c":         {},
		"a.1":           {},
		"a.(b)":         {},
		"(a).b":         {},
		"1[a]":          {},
		"1(a)":          {},
		"f(a)[b]":       {},
		"a[b](c)":       {},
		"a*":            {},
		"*a":            {},
		"-":             {},
		"a=b":           {},
		"low a":         {},
		"do f()":        {},
		"a==b+(c<d)==a": {},
	} {
		if want.Kind == 0 {
			if got, f := Parse(stats("x=" + text + ";")); f.Code != api.ErrForm {
				t.Errorf("%q is read as %v, %v", text, got, f)
			}
			continue
		}
		tryNode(t, stats("x="+text+";"), inProc(set(name("x"), want)))
		tryNode(t, stats("if("+text+"){}"), inProc(node(api.NIf, "", 0, want, block())))
	}
}

// C3: Scan's fault is told ahead of all others.
func TestC3Scan(t *testing.T) {
	tryFault(t, "; module 07", api.ErrForm, 9)
	tryFault(t, "; 9223372036854775808", api.ErrRange, 2)
	tryFault(t, "; abcdefghijklmnopq", api.ErrSize, 2)
	tryFault(t, "module m;low x@", api.ErrForm, 14)
	tryFault(t, "module m;"+strings.Repeat(" ", api.MaxText-8), api.ErrSize, 0)
	tryFault(t, strings.Repeat(" ", api.MaxText+1), api.ErrSize, 0)
	tryNode(t, "module m;"+strings.Repeat(" ", api.MaxText-9), module())
}

// C3: the first token with which no module begins; or the text's length, behind blanks and notes, too.
func TestC3Form(t *testing.T) {
	for text, at := range map[string]int{
		"": 0, " ": 1, "#": 1, "# module m;\n": 12, "module": 6, "module ": 7, "module m": 8, "module m#;": 10,
		"module m; low": 13, "module m;\nimport a ": 19, "module m;low x[3]": 17, "module m;pub ": 13,
		"m": 0, "module;": 6, "module 1;": 7, "module m.a;": 8, "module m;;": 9, "module m;module m;": 9,
		"module m;import a.b;": 17, "module m;low x;import a;": 15, "module m;pub import a;": 13, "module m;pub pub low x;": 13,
		"module m;pub high low x;": 18, "module m;x;": 9, "module m;low x=1;": 14, "module m;low x,y;": 14, "module m;low x[];": 15,
		"module m;low x[-1];": 15, "module m;low x[1+1];": 16, "module m;low a.x;": 14, "module m;proc p{}": 15, "module m;proc p(){}": 17,
		"module m;proc p()gives low{}": 17, "module m;proc p()low gives{}": 26, "module m;proc p()low low{}": 21, "module m;proc p()low;": 20,
		"module m;proc p(a)low{}": 16, "module m;proc p(low)low{}": 19, "module m;proc p(low a low b)low{}": 22, "module m;proc p(low a[1])low{}": 21,
		"module m;proc p(low a;": 21, "module m;proc p()low{}}": 22, "module m;proc p()low{": 21, "module m;proc p()low{ # }": 25,
		"module m;proc p()low{}\n\n;": 24, "module m;proc p()low{}proc": 26,
		stats("{}"): 21, stats(";"): 21, stats("1=x;"): 21, stats("x;"): 22, stats("x==1;"): 22, stats("x=1"): 24, stats("x.y.z=1;"): 24,
		stats("(x)=1;"): 21, stats("x[1]"): 25, stats("low x;"): 26, stats("low x.y=1;"): 26, stats("low x[1]=1;"): 26, stats("pub low x=1;"): 21,
		stats("do x;"): 25, stats("do x[1];"): 25, stats("do f()+1;"): 27, stats("do (f());"): 24, stats("do f(){}"): 27, stats("if x{}"): 24,
		stats("if(x)y=1;"): 26, stats("if(){}"): 24, stats("if(x){}else y=1;"): 33, stats("if(x){}else if(y){}"): 33, stats("else{}"): 21,
		stats("if(x){};"): 28, stats("while(x);"): 29, stats("while x{}"): 27, stats("while(x){}else{}"): 31, stats("out x;"): 25,
		stats("out low;"): 28, stats("in x;"): 24, stats("in low 1;"): 28, stats("in low x+1;"): 29, stats("in low f();"): 29, stats("return;"): 27,
		stats("return 1,2;"): 29, stats("proc q()low{}"): 21, stats("import a;"): 21, stats("f(1);"): 22, stats("x=1==2==3;"): 27,
		stats("x=(1==2"): 28, stats("x=f(1 2);"): 27,
	} {
		tryFault(t, text, api.ErrForm, at)
	}
}

// C3: how deep a node may be, and how many nodes a module may have; ErrForm is told ahead.
func TestC3Size(t *testing.T) {
	nested := func(times int) string { return stats("x=" + strings.Repeat("-", times) + "1;") }
	// The module, the procedure, the block, the statement, and the number are 5 deep.
	if _, f := Parse(nested(api.MaxDepth - 5)); f != (api.Fault{}) {
		t.Errorf("%d deep: %v", api.MaxDepth, f)
	}
	tryFault(t, nested(api.MaxDepth-4), api.ErrSize, 0)
	tryFault(t, nested(2000), api.ErrSize, 0)
	tryFault(t, strings.TrimSuffix(nested(2000), "}"), api.ErrForm, len(nested(2000))-1)
	tryFault(t, nested(2000)+"}", api.ErrForm, len(nested(2000)))
	tryNode(t, stats("x="+strings.Repeat("(", 1400)+"1"+strings.Repeat(")", 1400)+";"), inProc(set(name("x"), number(1))))
	tryFault(t, stats("x="+strings.Repeat("(", 2900)), api.ErrForm, len(stats(""))-1+2+2900)
	tryFault(t, stats(strings.Repeat("if(1){", 20)+strings.Repeat("}", 20)), api.ErrSize, 0)
	// Of a row those ahead are the deeper.
	if _, f := Parse(stats("out low 1" + strings.Repeat("+1", 11) + ";")); f != (api.Fault{}) {
		t.Errorf("a row of 12 items: %v", f)
	}
	tryFault(t, stats("out low 1"+strings.Repeat("+1", 12)+";"), api.ErrSize, 0)

	long := stats(strings.Repeat("x=1;", 166))
	// 3 nodes, and 3 of each statement: 501.
	tryFault(t, long, api.ErrSize, 0)
	if _, f := Parse(stats(strings.Repeat("x=1;", 165) + "do f();")); f != (api.Fault{}) {
		t.Errorf("%d nodes in a block: %v", api.MaxNodes, f)
	}
	tryFault(t, long+"x", api.ErrForm, len(long))
}

// C4: the document's example; each form once; a blank between any two tokens.
func TestC4Text(t *testing.T) {
	tryPrint(t, module(), "module m ;")
	tryPrint(t, module(variable(3)), "module m ; pub high x ;")
	tryPrint(t, everything(), strings.Join(strings.Fields(everythingText), " "))
	tryNode(t, everythingText, everything())
	tryPrint(t, inProc(output(number(math.MaxInt64))), "module m ; proc p ( ) low { out low 9223372036854775807 ; }")
}

// C4: too deep or too many nodes are told ahead of a wrong form, and of too long a text.
func TestC4Size(t *testing.T) {
	deep := func(times int) api.Node {
		n := number(1)
		for range times {
			n = neg(n)
		}
		return inProc(output(n))
	}
	if _, e := Print(deep(api.MaxDepth - 5)); e != api.OK {
		t.Errorf("%d deep: %d", api.MaxDepth, e)
	}
	tryRefused(t, deep(api.MaxDepth-4), api.ErrSize)
	tryRefused(t, deep(1<<16), api.ErrSize)
	wrong := deep(api.MaxDepth - 4)
	wrong.Kind = 0
	tryRefused(t, wrong, api.ErrSize)
	wrong = deep(api.MaxDepth - 5)
	wrong.Kind = 0
	tryRefused(t, wrong, api.ErrForm)

	vars := make([]api.Node, api.MaxNodes)
	for i := range vars {
		vars[i] = variable(0)
	}
	tryRefused(t, module(vars...), api.ErrSize)
	if _, e := Print(module(vars[1:]...)); e != api.ErrSize { // 8 bytes each: the text is too long
		t.Errorf("%d variables: %d", api.MaxNodes-1, e)
	}
	vars[1].Num = 4
	tryRefused(t, module(vars...), api.ErrSize)
	tryRefused(t, module(vars[1:]...), api.ErrForm)
	tryRefused(t, node(0, "", 0, vars...), api.ErrSize)
	tryRefused(t, node(0, "", 0, make([]api.Node, 1<<20)...), api.ErrSize)

	// Kids that hold one another, and kids of kids that are the same list.
	round := make([]api.Node, 2)
	round[0], round[1] = neg(number(1)), node(api.NNeg, "", 0)
	round[1].Kids = round
	tryRefused(t, inProc(output(node(api.NOp, "", api.OpAdd, round...))), api.ErrSize)
	twice := []api.Node{number(1), number(1)}
	for range 11 {
		n := node(api.NOp, "", api.OpAdd, twice...)
		twice = []api.Node{n, n}
	}
	tryRefused(t, inProc(output(twice[0])), api.ErrSize)
}

// C4: a text of MaxText bytes, and of one more.
func TestC4TextSize(t *testing.T) {
	var kids []api.Node
	length := len("module m ;")
	for length+len(" high abcdefghijklmnop ;")+8 <= api.MaxText {
		kids = append(kids, node(api.NVar, "abcdefghijklmnop", 1))
		length += len(" high abcdefghijklmnop ;")
	}
	left := api.MaxText - length
	last := " low " + strings.Repeat("a", left-7) + " ;"
	full := append(append([]api.Node{}, kids...), node(api.NVar, strings.Repeat("a", left-7), 0))
	text, e := Print(module(full...))
	if e != api.OK || len(text) != api.MaxText || !strings.HasSuffix(text, last) {
		t.Errorf("%d bytes, %d", len(text), e)
	}
	tryNode(t, text, module(full...))
	full[len(full)-1].Num = 1
	tryRefused(t, module(full...), api.ErrSize)
	full[len(full)-1].Num = 4
	tryRefused(t, module(full...), api.ErrForm)
	full[len(full)-1].Num = 0
	full[len(full)-1].Text += "a"
	tryRefused(t, module(full...), api.ErrSize)
	full[0].Text += "q"
	tryRefused(t, module(full...), api.ErrForm)
}

// C4: nodes that are no module's.
func TestC4Form(t *testing.T) {
	one, stat := number(1), output(number(1))
	for i, n := range []api.Node{
		{}, variable(0), block(), one, node(api.NModule, "", 0), node(api.NModule, "m", 1), node(api.NModule, "m n", 0), node(api.NModule, " m", 0),
		node(api.NModule, "m ", 0), node(api.NModule, "m#", 0), node(api.NModule, "m\n", 0), node(api.NModule, "a.b", 0), node(api.NModule, "1", 0),
		node(api.NModule, "_", 0), node(api.NModule, "é", 0), node(api.NModule, "abcdefghijklmnopq", 0), node(api.NModule, ";", 0),
		node(api.NModule, strings.Repeat("a", 1<<16), 0), node(api.NModule, "a"+strings.Repeat(" ", api.MaxText), 0),
		module(module()), module(variable(0), node(api.NImport, "a", 0)), module(node(api.NImport, "a", 0, one)), module(node(api.NImport, "a", 1)),
		module(node(api.NImport, "", 0)), module(block()), module(stat), module(one),
		module(variable(-1)), module(variable(4)), module(node(api.NVar, "x", 0, one, one)), module(node(api.NVar, "x", 0, name("x"))),
		module(node(api.NVar, "x", 0, number(-1))), module(node(api.NVar, "m.x", 0)), module(node(api.NVar, "", 0)),
		module(node(api.NProc, "p", 0)), module(node(api.NProc, "p", 12, block())), module(node(api.NProc, "p", -1, block())),
		module(node(api.NProc, "p", 16, block())), module(node(api.NProc, "p", 0, block(), block())), module(node(api.NProc, "p", 0, block(), node(api.NParam, "a", 0))),
		module(node(api.NProc, "p", 0, node(api.NParam, "a", 0))), module(node(api.NProc, "p", 0, node(api.NParam, "a", 2), block())),
		module(node(api.NProc, "p", 0, node(api.NParam, "a", 0, one), block())), module(node(api.NProc, "p", 0, node(api.NParam, "a.b", 0), block())),
		module(node(api.NProc, "p", 0, variable(0), block())), module(node(api.NProc, "p", 0, stat)),
		inProc(block()), inProc(variable(0)), inProc(one), inProc(call("f")), inProc(name("x")), inProc(api.Node{}), inProc(node(22, "", 0)), inProc(node(-1, "", 0)),
		inProc(node(math.MaxInt, "", 0)), inProc(node(math.MinInt, "", 0)),
		inProc(set(one, one)), inProc(set(call("f"), one)), inProc(set(name("x"), stat)), inProc(node(api.NSet, "", 0, name("x"))),
		inProc(node(api.NSet, "", 0, name("x"), one, one)), inProc(node(api.NSet, "x", 0, name("x"), one)), inProc(node(api.NSet, "", 1, name("x"), one)),
		inProc(node(api.NDo, "", 0, one)), inProc(node(api.NDo, "", 0, name("f"))), inProc(node(api.NDo, "", 0)), inProc(node(api.NDo, "", 0, call("f"), call("f"))),
		inProc(node(api.NDo, "", 0, neg(call("f")))), inProc(node(api.NIf, "", 0, one)), inProc(node(api.NIf, "", 0, one, stat)),
		inProc(node(api.NIf, "", 0, one, block(), stat)), inProc(node(api.NIf, "", 0, one, block(), block(), block())), inProc(node(api.NIf, "", 0, block(), block())),
		inProc(node(api.NWhile, "", 0, one)), inProc(node(api.NWhile, "", 0, one, block(), block())), inProc(node(api.NWhile, "", 0, block(), one)),
		inProc(node(api.NOut, "", 2, one)), inProc(node(api.NOut, "", -1, one)), inProc(node(api.NOut, "", 0)), inProc(node(api.NOut, "", 0, one, one)), inProc(node(api.NOut, "a", 0, one)),
		inProc(node(api.NIn, "", 2, name("x"))), inProc(node(api.NIn, "", 0, one)), inProc(node(api.NIn, "", 0, call("f"))), inProc(node(api.NIn, "", 0)),
		inProc(node(api.NReturn, "", 0)), inProc(node(api.NReturn, "", 1, one)), inProc(node(api.NReturn, "", 0, one, one)), inProc(node(api.NReturn, "", 0, block())),
		inProc(node(api.NLocal, "a", 0)), inProc(node(api.NLocal, "a", 2, one)), inProc(node(api.NLocal, "a.b", 0, one)), inProc(node(api.NLocal, "", 0, one)),
		inProc(output(number(-1))), inProc(output(number(math.MinInt64))), inProc(output(node(api.NNumber, "1", 1))), inProc(output(node(api.NNumber, "", 1, one))),
		inProc(output(name(""))), inProc(output(name("."))), inProc(output(name("a."))), inProc(output(name(".a"))), inProc(output(name("a.b.c"))),
		inProc(output(name("a .b"))), inProc(output(name("a. b"))), inProc(output(name("a..b"))), inProc(output(name("a b"))), inProc(output(name("1"))),
		inProc(output(name("a.1"))), inProc(output(name("a.abcdefghijklmnopq"))), inProc(output(name("abcdefghijklmnopq.a"))), inProc(output(name("a[1]"))),
		inProc(output(node(api.NName, "a", 1))), inProc(output(node(api.NName, "a", 0, one))), inProc(output(node(api.NItem, "a", 0))),
		inProc(output(node(api.NItem, "a", 0, one, one))), inProc(output(node(api.NItem, "", 0, one))), inProc(output(node(api.NItem, "a", 1, one))),
		inProc(output(node(api.NCall, "", 0))), inProc(output(node(api.NCall, "f", 1))), inProc(output(call("f", stat))),
		inProc(output(op(0, one, one))), inProc(output(op(10, one, one))), inProc(output(op(-1, one, one))), inProc(output(op(math.MaxInt64, one, one))),
		inProc(output(node(api.NOp, "", 1, one))), inProc(output(node(api.NOp, "", 1))), inProc(output(node(api.NOp, "", 1, one, one, one))),
		inProc(output(node(api.NOp, "+", 1, one, one))), inProc(output(op(1, one, block()))), inProc(output(op(1, stat, one))),
		inProc(output(node(api.NNeg, "", 0))), inProc(output(node(api.NNeg, "", 1, one))), inProc(output(node(api.NNeg, "", 0, one, one))), inProc(output(node(api.NNeg, "-", 0, one))),
		inProc(output(node(api.NNot, "", 0))), inProc(output(node(api.NNot, "", 1, one))), inProc(output(not(stat))),
	} {
		if got, e := Print(n); got != "" || e != api.ErrForm {
			t.Errorf("%d: Print(%.200v) = %q, %d", i, n, got, e)
		}
	}
}

// C4, P3: what is handed in is not changed, and nothing behind a list's length is looked at.
func TestC4Argument(t *testing.T) {
	n, want := everything(), everything()
	Print(n)
	if !reflect.DeepEqual(n, want) {
		t.Error("Print changed its argument")
	}
	kids := []api.Node{variable(0), {}}
	tryPrint(t, module(kids[:1]...), "module m ; low x ;")
	if got := module(kids[:1]...); !reflect.DeepEqual(kids, []api.Node{variable(0), {}}) {
		t.Errorf("Print changed what lies behind %v", got)
	}
}

// P3: no two lists of a node share memory, not even where one grows.
func TestC3Memory(t *testing.T) {
	n, _ := Parse(everythingText)
	again, _ := Parse(everythingText)
	var grow func(n *api.Node)
	grow = func(n *api.Node) {
		kids := n.Kids
		for i := range kids[:cap(kids)][len(kids):] {
			kids[:cap(kids)][len(kids)+i] = node(99, "behind", 99)
		}
		for i := range kids {
			grow(&kids[i])
		}
	}
	grow(&n)
	if !same(n, again) {
		t.Error("lists of one node share memory")
	}
}

// C5: all forms, and numbers at their ends.
func TestC5RoundTrip(t *testing.T) {
	for _, n := range []api.Node{module(), everything(), inProc(output(number(math.MaxInt64))), inProc(output(neg(number(0))))} {
		text, e := Print(n)
		if e != api.OK {
			t.Errorf("Print(%v): %d", n, e)
		}
		tryNode(t, text, n)
	}
	for i := range int64(12) {
		text, _ := Print(module(node(api.NProc, "p"+strconv.FormatInt(i, 10), i, block())))
		tryNode(t, text, module(node(api.NProc, "p"+strconv.FormatInt(i, 10), i, block())))
	}
}
