package check

import (
	"reflect"
	"slices"
	"strconv"
	"strings"
	"testing"

	"dryshod/api"
	"dryshod/face"
	"dryshod/syntax"
)

// world is what most texts here import as a: variables low and high, words and
// arrays; procedures by what they write and give (a dash: nothing).
func world() api.Face {
	return api.Face{
		Module: "a",
		Vars: []api.Var{
			{Name: "l", Pub: true}, {Name: "h", Pub: true, Label: api.High},
			{Name: "ls", Pub: true, Size: 4}, {Name: "hs", Pub: true, Label: api.High, Size: 1},
		},
		Procs: []api.Proc{
			{Name: "low_", Pub: true}, {Name: "high_", Pub: true, Writes: api.High},
			{Name: "low_low", Pub: true, Gives: true},
			{Name: "low_high", Pub: true, Gives: true, Given: api.High},
			{Name: "high_low", Pub: true, Writes: api.High, Gives: true},
			{Name: "high_high", Pub: true, Writes: api.High, Gives: true, Given: api.High},
			{Name: "takes", Pub: true, Params: []int{api.Low, api.High}},
		},
	}
}

// head declares the same in the module itself, pub or not.
const head = "module m;import a;low l;high h;low ls[4];pub high hs[1];" +
	"proc low_()low{}proc high_()high{}" +
	"proc low_low()low gives low{return 1;}proc low_high()low gives high{return 1;}" +
	"proc high_low()high gives low{return 1;}pub proc high_high()high gives high{return 1;}" +
	"proc takes(low x,high y)low{}"

// inLow and inHigh stand in a procedure's block with that context.
func inLow(stats string) string  { return head + "proc p(low lp,high hp)low{" + stats + "}" }
func inHigh(stats string) string { return head + "proc p(low lp,high hp)high{" + stats + "}" }

// inIf and inWhile stand in blocks whose context is high by what is asked.
func inIf(stats string) string    { return inLow("if(h){" + stats + "}") }
func inElse(stats string) string  { return inLow("if(lp+hp){}else{" + stats + "}") }
func inWhile(stats string) string { return inLow("while(hs[0]){" + stats + "}") }
func inInner(stats string) string { return inLow("if(h){while(l){if(1){" + stats + "}}}") }

// inLowIf stands in blocks whose context is low.
func inLowIf(stats string) string {
	return inLow("if(l){while(ls[lp]){if(h){}else{h=1;}" + stats + "}}")
}

// lastOf answers the number of the last node of a kind; kids stand behind it.
func lastOf(text string, kind int) int {
	module, _ := syntax.Parse(text)
	last, count := -1, 0
	var visit func(n api.Node)
	visit = func(n api.Node) {
		if n.Kind == kind {
			last = count
		}
		count++
		for _, kid := range n.Kids {
			visit(kid)
		}
	}
	visit(module)
	return last
}

func tryGood(t *testing.T, texts ...string) {
	t.Helper()
	for _, text := range texts {
		got, f := Check(text, []api.Face{world()})
		want, _ := syntax.Parse(text)
		if f != (api.Fault{}) || got.Kind != api.NModule || !reflect.DeepEqual(got, want) {
			t.Errorf("Check(%q) = %v, %v", text, got, f)
		}
	}
}

func tryFault(t *testing.T, text string, faces []api.Face, want api.Fault) {
	t.Helper()
	if got, f := Check(text, faces); f != want || !reflect.DeepEqual(got, api.Node{}) {
		t.Errorf("Check(%.300q) = %v, %v; want the fault %v", text, got, f, want)
	}
}

// tryBad tries texts whose first fault is at their last node of this kind.
func tryBad(t *testing.T, code api.Errno, kind int, texts ...string) {
	t.Helper()
	for _, text := range texts {
		tryFault(t, text, []api.Face{world()}, api.Fault{Code: code, At: lastOf(text, kind)})
	}
}

// E1: faces that may not be, or two of one name, are told ahead of all else.
func TestE1Faces(t *testing.T) {
	bad := world()
	bad.Vars[0].Pub = false
	many := api.Face{Module: "b"}
	for i := range api.MaxDecls + 1 {
		many.Vars = append(many.Vars, api.Var{Name: "v" + strconv.Itoa(i), Pub: true})
	}
	for _, faces := range [][]api.Face{
		{{}}, {bad}, {world(), {Module: "low"}}, {{Module: "1"}, world()}, {world(), many},
		{world(), world()}, {{Module: "b"}, world(), {Module: "b"}},
		{world(), {Module: "a"}}, {{Module: "m"}, {Module: "m"}},
		slices.Repeat([]api.Face{world()}, 1000),
	} {
		for _, text := range []string{"module m;", inLow(""), "", "?", "module m;low x;low x;", "module m;import z;"} {
			tryFault(t, text, faces, api.Fault{Code: api.ErrForm})
		}
	}
	for _, faces := range [][]api.Face{nil, {}, {{Module: "m"}}, {world(), {Module: "m"}, {Module: "b"}}} {
		if n, f := Check("module m;", faces); f != (api.Fault{}) || n.Kind != api.NModule || n.Text != "m" || len(n.Kids) > 0 {
			t.Errorf("Check with %v = %v, %v", faces, n, f)
		}
	}
	var lots []api.Face
	for i := range 5000 {
		lots = append(lots, api.Face{Module: "f" + strconv.Itoa(i)})
	}
	if _, f := Check("module m;import f4999;import f0;", lots); f != (api.Fault{}) {
		t.Errorf("with many faces: %v", f)
	}
	tryFault(t, "module m;import f4999;import f5000;", lots, api.Fault{Code: api.ErrName, At: 2})
}

// E1: then the fault of face.Of, wherever it is.
func TestE1Of(t *testing.T) {
	for _, text := range []string{
		"", "?", "module m", "module low;", "module m;low 07;", "module m;x=1;", strings.Repeat(" ", api.MaxText+1),
		"module m;import z;import z;", "module m;import m;", "module m;import z;low x;low x;",
		"module m;proc p()low{z=1;}low x[0];", "module m;proc p()low{z=1;}low x[65];",
		"module m;proc p()low gives low{}proc q(low a,low a)low{}",
		"module m;proc p()low{z=1;}proc q(low a,low b,low c,low d,low e,low f)low{}",
		"module m;" + strings.Repeat("import z;", api.MaxModules),
		"module m;proc p()low{z=" + strings.Repeat("-", api.MaxDepth) + "1;}",
		"module m;proc p()low{z=1;}low x;proc p()low{}",
	} {
		_, _, want := face.Of(text)
		if want.Code == api.OK {
			t.Errorf("face.Of(%q) tells no fault", text)
		}
		tryFault(t, text, []api.Face{world()}, want)
	}
}

// E1: the first fault from the left, a node's own behind those of its kids.
func TestE1First(t *testing.T) {
	for text, want := range map[string]api.Fault{
		"module m;high x;low y;proc p()low{y=x;}":               {Code: api.ErrLabel, At: 5},
		"module m;low y;proc p()low{y=1;z=1;y=z;}":              {Code: api.ErrName, At: 8},
		"module m;import z;proc p()low{z=1;}":                   {Code: api.ErrName, At: 1},
		"module m;import a;import b;import c;":                  {Code: api.ErrName, At: 2},
		"module m;low q[3];proc p(low x)low{}proc r()low{z=1;}": {Code: api.ErrName, At: 9},
		"module m;high x;proc p()low{out low x+z;}":             {Code: api.ErrName, At: 7},
		"module m;high x;proc p()low{out low x;}low y[1];":      {Code: api.ErrLabel, At: 4},
		"module m;high x;proc p()low gives low{out low x;}":     {Code: api.ErrLabel, At: 4},
		"module m;high x;proc p()low gives low{out low 1;}":     {Code: api.ErrForm, At: 2},
		"module m;proc p()low{do z(y);}":                        {Code: api.ErrName, At: 5},
		"module m;proc p()low{do z(1);}":                        {Code: api.ErrName, At: 4},
		"module m;proc p()low{z[y]=1;}":                         {Code: api.ErrName, At: 5},
		"module m;proc p()low{z[1]=y;}":                         {Code: api.ErrName, At: 4},
		"module m;proc p()low{return y;}":                       {Code: api.ErrName, At: 4},
		"module m;proc p()low{return 1;}":                       {Code: api.ErrForm, At: 3},
		"module m;proc p()low{if(y){z=1;}else{}}":               {Code: api.ErrName, At: 4},
		"module m;proc p()low{if(1){}else{z=1;}}":               {Code: api.ErrName, At: 8},
		"module m;proc p()low{low x=1;low x=y;}":                {Code: api.ErrName, At: 6},
		"module m;proc p()low{low x=1;low x=2;}":                {Code: api.ErrTwice, At: 5},
		"module m;low y[2];proc p()low{y=y;}":                   {Code: api.ErrKind, At: 6},
	} {
		tryFault(t, text, []api.Face{world()}, want)
	}
}

// E1: of several faults of one node the one that is named first.
func TestE1Several(t *testing.T) {
	full := ""
	for i := range api.MaxLocals - 2 {
		full += "high v" + strconv.Itoa(i) + "=0;"
	}
	tryBad(t, api.ErrTwice, api.NLocal, inLow(full+"low v0=h;"), inLow(full+"high v0=h;"), inLow("low lp=h;"), inHigh("low hp=1;"))
	tryBad(t, api.ErrSize, api.NLocal, inLow(full+"low w=h;"), inHigh(full+"low w=1;"), inLow(full+"high w=1;"))
	tryBad(t, api.ErrRange, api.NCall, inIf("out low low_(1);"), inLow("l=takes(h);"), inLow("l=takes(h,h,h);"))
	tryBad(t, api.ErrKind, api.NCall, inIf("out low low_();"), inLow("l=takes(h,h);"), inHigh("h=a.takes(h,h);"))
	tryBad(t, api.ErrForm, api.NReturn, inLow("return h;"), inHigh("return h;"))
}

// E2: imports, and procedures that give something.
func TestE2(t *testing.T) {
	tryGood(t, "module m;import a;", "module a;", "module m;")
	tryBad(t, api.ErrName, api.NImport, "module m;import b;", "module m;import A;", "module a;import m;", "module m;import a;import l;")
	for _, gives := range []string{"low", "high"} {
		for _, writes := range []string{"low ", "high "} {
			begin := "module m;high x;low y;proc p()" + writes + "gives " + gives
			tryGood(t, begin+"{return 1;}", begin+"{out high 1;return y;}low z;")
			tryBad(t, api.ErrForm, api.NProc, begin+"{}", begin+"{out high 1;}low z;", begin+"{if(1){}}", begin+"{x=2;while(0){}}")
			tryBad(t, api.ErrForm, api.NReturn, begin+"{if(1){return 1;}}", begin+"{while(1){return 1;}}")
		}
	}
	tryGood(t, "module m;proc p()low{}", "module m;proc p()high{out high 1;}")
	tryBad(t, api.ErrForm, api.NProc, "module m;proc q()low gives low{return 1;}proc p()low gives low{}")
}

// E3: which locals there are, and from where to where.
func TestE3Locals(t *testing.T) {
	tryGood(t,
		inLow("out low lp;out high hp;lp=1;hp=2;"),
		inLow("low x=1;low y=x;out low x+y;"),
		inLow("low x=1;if(x){x=2;while(x){x=3;}}else{out low x;}"),
		inLow("if(1){low x=1;}else{low x=2;out low x;}low x=3;"),
		inLow("while(1){low x=1;}while(1){high x=2;}"),
		inLow("low x=1;if(1){high x=h;if(1){low x=2;out low x;}out high x;}out low x;"),
		inLow("if(1){high lp=h;}out low lp;"),
		inLow("low l=1;if(1){low l=2;}high ls=h;ls=h;"),
		inLow("low l=l;low m=1;low a=m;low p=1;"),
		head+"proc p(low x)low{}proc q(high x)low{high y=x;}proc r()low{low x=1;low y=x;}",
	)
	tryBad(t, api.ErrTwice, api.NLocal,
		inLow("low lp=1;"), inLow("high hp=1;"), inLow("low x=1;high x=1;"), inLow("if(1){low y=1;low x=1;low y=2;}"),
		inLow("low x=1;if(1){low x=2;}low x=3;"), inHigh("high x=1;while(1){high x=1;high y=1;high x=1;}"),
	)
	tryBad(t, api.ErrName, api.NName,
		inLow("low x=x;"), inLow("if(1){low x=1;}out low x;"), inLow("if(1){low x=1;}else{out low x;}"),
		inLow("if(1){if(1){low x=1;}out low x;}"), inLow("while(x){low x=1;}"), inLow("out low x;low y=1;low x=1;"),
		head+"proc p(low x)low{low y=1;}proc q()low{out low x;}", head+"proc p()low{low y=1;}proc q()low{out low y;}",
	)
}

// locals answers so many NLocals with the names that begin so.
func locals(begin string, count int) string {
	text := ""
	for i := range count {
		text += "low " + begin + strconv.Itoa(i) + "=1;"
	}
	return text
}

// E3: how many locals there may be at once, with parameters and those of blocks around.
func TestE3Size(t *testing.T) {
	alone := func(stats string) string { return "module m;proc p()low{" + stats + "}" }
	most := api.MaxLocals
	tryGood(t,
		alone(locals("x", most)), inLow(locals("x", most-2)),
		alone(locals("x", 10)+"if(1){"+locals("y", most-10)+"}else{"+locals("z", most-10)+"}"+locals("w", most-10)),
		alone("while(1){while(1){"+locals("x", most)+"}}"),
		alone(locals("x", most))+"proc q(low x)low{"+locals("y", most-1)+"}",
	)
	tryBad(t, api.ErrSize, api.NLocal,
		alone(locals("x", most+1)), inLow(locals("x", most-1)),
		alone(locals("x", 10)+"if(1){}else{"+locals("y", most-9)+"}"),
		alone(locals("x", most)+"while(1){low x0=1;}"),
		alone(locals("x", 1)+"if(1){"+locals("y", most-2)+"if(1){low z=1;low x0=2;}}"),
		"module m;proc p(low a,low b,low c,low d,low e)low{"+locals("y", most-4)+"}",
	)
	tryBad(t, api.ErrTwice, api.NLocal, alone(locals("x", most)+"low x0=1;"))
}

// E4: what names mean.
func TestE4Names(t *testing.T) {
	other := api.Face{Module: "b", Vars: []api.Var{{Name: "v", Pub: true}}, Procs: []api.Proc{{Name: "f", Pub: true}}}
	own := api.Face{Module: "m", Vars: []api.Var{{Name: "v", Pub: true}}, Procs: []api.Proc{{Name: "f", Pub: true}}}
	for _, stat := range []string{"b.v=1;", "out low b.v;", "do b.f();", "m.v=1;", "do m.f();", "m.l=1;", "do m.low_();", "v=1;", "do f();"} {
		text := inLow(stat)
		kind := api.NName
		if strings.HasPrefix(stat, "do") {
			kind = api.NCall
		}
		tryFault(t, text, []api.Face{world(), other, own}, api.Fault{Code: api.ErrName, At: lastOf(text, kind)})
	}
	tryGood(t,
		inLow("l=1;h=2;ls[l]=3;hs[h]=4;out low l+ls[0];out high h+hs[1];"),
		inLow("a.l=1;a.h=2;a.ls[a.l]=3;a.hs[a.h]=4;out low a.l+a.ls[0];out high a.h+a.hs[1];"),
		inLow("do low_();do a.low_();do p(1,2);do later();")+"low late;proc later()low{late=1;do p(late,late);}",
		inLow("high l=h;out high a.l;l=h;a.l=1;high a=h;a.l=2;out low a.ls[1];"),
	)
	tryBad(t, api.ErrName, api.NName,
		inLow("z=1;"), inLow("L=1;"), inLow("out low z;"), inLow("in low z;"), inLow("l=a.z;"), inLow("a.z=1;"), inLow("a.low_=1;"),
		inLow("out low low_;"), inLow("out low p;"), inLow("out low m;"), inLow("out low a;"), inLow("low_=1;"), inLow("a.lp=1;"),
		inLow("z.l=1;"), inLow("if(z){}"), inLow("while(z){}"), inLow("return z;"), inLow("do takes(1,z);"), inLow("ls[z]=1;"), inLow("in low ls[z];"),
		inLow("ls[0]=z;"), inLow("low x=z;"), inLow("out low -z;"), inLow("out low !z;"), inLow("out low 1<z;"), inLow("out low ls[z];"),
	)
	tryBad(t, api.ErrName, api.NItem, inLow("z[1]=1;"), inLow("out low z[0];"), inLow("in low z[0];"), inLow("a.z[0]=1;"), inLow("z.ls[0]=1;"), inLow("out low low_[0];"))
	tryBad(t, api.ErrName, api.NCall,
		inLow("do z();"), inLow("l=z();"), inLow("do l();"), inLow("do ls();"), inLow("do a.l();"), inLow("do a.z();"), inLow("do z.low_();"),
		inLow("do a.takes(1,z());"), inLow("do lp();"), inLow("do a();"), inLow("do a.p(1,1);"), inLow("do z(1,2,3);"),
	)
	// A call asks for procedures alone, whatever locals there are.
	tryGood(t, inLow("low low_=1;low takes=2;do low_();do takes(low_,takes);"))
}

// E4: words and arrays, how many arguments there are, and what gives nothing.
func TestE4Kinds(t *testing.T) {
	tryBad(t, api.ErrKind, api.NName,
		inLow("ls=1;"), inLow("hs=1;"), inLow("a.hs=1;"), inLow("out high hs;"), inLow("out low a.ls;"), inLow("in low ls;"),
		inLow("do takes(1,ls);"), inLow("ls[ls]=1;"), inLow("if(ls){}"), "module m;low x[1];proc p()low{x=1;}",
	)
	tryBad(t, api.ErrKind, api.NItem,
		inLow("l[0]=1;"), inLow("a.l[0]=1;"), inLow("out high h[0];"), inLow("in high h[0];"), inLow("lp[0]=1;"),
		inLow("low ls=1;ls[0]=1;"), inLow("low ls=1;out low ls[0];"), inLow("out low a.h[0];"),
	)
	tryGood(t, inLow("if(1){low ls=1;ls=2;}ls[0]=1;"), inLow("low ls=ls[0];a.ls[ls]=1;"))
	tryBad(t, api.ErrRange, api.NCall,
		inLow("do takes();"), inLow("do takes(1);"), inLow("do takes(1,2,3);"), inLow("do low_(1);"), inLow("do a.takes(1);"),
		inLow("do a.low_(1);"), inLow("l=low_low(1);"), inLow("do p(1);"), inLow("do p(1,2,3,4,5,6,7);"),
	)
	tryBad(t, api.ErrKind, api.NCall,
		inLow("l=low_();"), inLow("h=high_();"), inLow("l=a.low_();"), inLow("if(low_()){}"), inLow("while(a.high_()){}"), inLow("out high high_();"),
		inLow("do takes(1,low_());"), inLow("ls[low_()]=1;"), inLow("low x=low_();"), inLow("out low 1+low_();"), inLow("return low_();"),
		inLow("in low ls[low_()];"), head+"proc p()low gives low{return low_();}", inLow("out low takes(1,2);"),
	)
	tryGood(t, inLow("do low_low();do a.low_high();do high_low();do high_high();do low_();do a.high_();do takes(1,2);"))
}

// E5: labels of expressions, told by what they may flow to.
func TestE5Labels(t *testing.T) {
	for _, low := range []string{
		"0", "l", "lp", "a.l", "ls[0]", "ls[l]", "a.ls[ls[lp]]", "low_low()", "a.low_low()", "high_low()", "a.high_low()",
		"l+lp", "-l", "!l", "l==1", "l<a.l", "-!(l*lp%ls[l]/3&4|5-6)", "q(h)", "q(h+hs[h])", "q(low_high())",
	} {
		text := inLow("out low "+low+";low x="+low+";ls["+low+"]="+low+";do takes("+low+","+low+");if("+low+"){l=1;}while("+low+"){l=2;}") +
			"proc q(high x)high gives low{return 1;}"
		tryGood(t, text)
	}
	for _, high := range []string{
		"h", "hp", "a.h", "hs[0]", "hs[l]", "a.hs[0]", "hs[h]", "ls[h]", "a.ls[a.h]", "ls[ls[hp]]", "low_high()", "a.low_high()", "high_high()", "a.high_high()",
		"h+l", "l+h", "h+h", "-h", "!h", "l==h", "h<l", "1+2*(3-h)", "l|h", "h&l", "-!-(1+hs[0])", "l%low_high()", "h-h", "0*h",
	} {
		tryGood(t, inLow("out high "+high+";high x="+high+";hs["+high+"]="+high+";a.h="+high+";do takes(1,"+high+");if("+high+"){h=1;}while("+high+"){h=2;}"))
		tryBad(t, api.ErrLabel, api.NOut, inLow("out low "+high+";"))
		tryBad(t, api.ErrLabel, api.NLocal, inLow("low x="+high+";"))
		tryBad(t, api.ErrLabel, api.NSet, inLow("l="+high+";"), inLow("a.l="+high+";"), inLow("lp="+high+";"), inLow("ls[0]="+high+";"),
			inLow("if("+high+"){l=1;}"), inLow("if("+high+"){}else{l=1;}"), inLow("while("+high+"){l=1;}"))
		tryBad(t, api.ErrLabel, api.NSet, inLow("ls["+high+"]=1;"))
	}
}

// E5: contexts, told by what may be done there.
func TestE5Contexts(t *testing.T) {
	for _, where := range []func(string) string{inHigh, inIf, inElse, inWhile, inInner} {
		for kind, stats := range map[int][]string{
			api.NLocal: {"low x=1;"},
			api.NSet:   {"l=1;", "lp=1;", "a.l=1;", "ls[0]=1;"},
			api.NOut:   {"out low 1;"},
			api.NIn:    {"in low l;", "in low h;", "in low hs[0];", "in high l;"},
			api.NCall:  {"do low_();", "do a.low_();", "h=low_low();", "do low_high();", "do takes(1,h);", "if(low_low()){}", "while(low_high()){}", "hs[low_low()]=1;", "high x=low_low();", "out high a.low_low();", "in high hs[low_low()];", "do high_();h=1+low_high();"},
		} {
			for _, stat := range stats {
				tryBad(t, api.ErrLabel, kind, where(stat))
				if !strings.Contains(stat, "in high l") {
					tryGood(t, inLow(stat), inLowIf(stat))
				}
			}
		}
		tryGood(t, where("high x=h;x=l;h=1;hs[h]=2;a.h=3;out high h+l+lp;in high h;in high hs[h];do high_();h=high_low()+high_high()+a.high_high();if(h){h=1;}while(l){h=2;}"))
	}
	// What is asked is itself in the context of the statement, as is all behind its blocks.
	tryGood(t,
		inLow("if(low_high()){h=1;}l=1;out low l;"), inLow("if(h+low_low()){}"), inLow("while(low_high()){h=1;}l=1;do low_();"), inLow("while(h+low_low()){}"),
		inLow("if(h){if(l){}}else{h=1;}low x=1;in low x;"),
	)
	tryBad(t, api.ErrLabel, api.NCall, inHigh("if(low_low()){}"), inIf("while(l+low_low()){}"))
	tryBad(t, api.ErrLabel, api.NReturn, head+"proc p()low gives low{return low_high();}")
	tryBad(t, api.ErrLabel, api.NCall, head+"proc p()high gives high{return low_low();}", head+"proc p()high gives low{return a.low_low();}")
}

// E6: what may flow where, statement by statement.
func TestE6Stats(t *testing.T) {
	tryBad(t, api.ErrLabel, api.NSet,
		inLow("l=h;"), inLow("ls[0]=h;"), inLow("ls[h]=l;"), inLow("a.ls[a.h]=1;"), inLow("a.l=h;"), inLow("lp=hp;"), inLow("low x=1;x=h;"), inLow("low h=1;h=hp;"),
		inHigh("l=l;"), inHigh("lp=1;"), inHigh("a.ls[0]=1;"), head+"proc p()low{low x=1;if(h){x=2;}}")
	tryGood(t,
		inLow("l=l;h=l;h=h;hs[h]=h;hs[l]=l;ls[l]=l;a.h=l;a.hs[h]=h;lp=l;hp=lp;"),
		inLow("high l=h;l=h;"), inHigh("hs[h]=h;hp=h;a.h=l;"),
	)
	tryBad(t, api.ErrLabel, api.NIn,
		inLow("in high l;"), inLow("in high ls[0];"), inLow("in low ls[h];"), inLow("in high ls[h];"), inLow("in low a.ls[hp];"), inLow("in high lp;"),
		inHigh("in low h;"), inHigh("in low l;"), inHigh("in high l;"), inHigh("in high ls[0];"), inIf("in low hs[0];"),
	)
	tryGood(t, inLow("in low l;in low h;in high h;in low ls[l];in low hs[h];in high hs[h];in low a.h;in high hp;"), inHigh("in high h;in high hs[h];in high a.h;in high hp;"))
	tryBad(t, api.ErrLabel, api.NOut, inLow("low x=1;if(1){high x=2;out low x;}"), inLow("high l=1;out low l;"), inLow("out low h;"), inHigh("out low 1;"), inHigh("out low h;"))
	tryGood(t, inLow("out low l;out high l;out high h;"), inHigh("out high l;out high h;"))
	tryBad(t, api.ErrLabel, api.NLocal, inLow("low x=h;"), inHigh("low x=1;"), inHigh("low x=h;"))
	tryGood(t, inLow("low x=l;high y=l;high z=h;"), inHigh("high y=l;high z=h;"))
}

// E6: calls, and what is given back.
func TestE6Calls(t *testing.T) {
	tryBad(t, api.ErrLabel, api.NCall,
		inLow("do takes(h,1);"), inLow("do a.takes(h,h);"), inLow("do p(hp,1);"), inHigh("do takes(1,1);"), inHigh("do takes(h,1);"),
		inLow("do q(1,2,3,4,h);")+"proc q(high a,high b,high c,high d,low e)high{}",
	)
	tryGood(t,
		inLow("do takes(l,h);do takes(l,l);do a.takes(lp,hp);do p(l,h);"), inHigh("do p(l,h);do q(h,l);do q(l,l);")+"proc q(high a,low b)high{}",
		inLow("do takes(1+high_low(),low_high());"),
	)
	gives := func(label, value string) string {
		return head + "proc p()low gives " + label + "{l=1;return " + value + ";}"
	}
	tryGood(t, gives("low", "l"), gives("high", "l"), gives("high", "h"), gives("low", "high_low()"), gives("low", "low_low()"), gives("high", "low_high()"),
		head+"proc p()high gives low{return l;}", head+"proc p()high gives high{return h;}")
	tryBad(t, api.ErrLabel, api.NReturn, gives("low", "h"), gives("low", "l+h"), gives("low", "ls[h]"), head+"proc p(high x)high gives low{return x;}")
}

// E6: an NReturn that is not the last one of a procedure's block.
func TestE6Returns(t *testing.T) {
	for text, at := range map[string]int{
		"module m;proc p()low gives low{return 1;return 2;}":                     3,
		"module m;proc p()low gives low{return 1;out low 1;}":                    3,
		"module m;proc p()low gives low{if(1){return 1;}return 2;}":              6,
		"module m;proc p()low gives low{if(1){}else{return 1;}return 2;}":        7,
		"module m;proc p()low gives low{while(1){return 1;}return 2;}":           6,
		"module m;proc p()low gives low{if(1){return 1;}else{return 2;}}":        6,
		"module m;proc p()low{return 1;}":                                        3,
		"module m;proc p()low{out low 1;return 1;}":                              5,
		"module m;proc p()low{if(1){return 1;}}":                                 6,
		"module m;high x;proc p()low gives low{return x;return x;}":              4,
		"module m;high x;proc p()low{return x;}proc q()low gives low{return x;}": 4,
	} {
		tryFault(t, text, nil, api.Fault{Code: api.ErrForm, At: at})
	}
	tryFault(t, "module m;high x;proc q()low gives low{return x;}", nil, api.Fault{Code: api.ErrLabel, At: 4})
}

// P1, P3: nothing that is handed in is changed, kept or shared; the same is answered again.
func TestMemory(t *testing.T) {
	text := inLow("do takes(l,h);a.hs[h]=a.high_high();")
	faces := []api.Face{world(), {Module: "b"}, {Module: "low"}}[:2]
	first, _ := Check(text, faces)
	if !reflect.DeepEqual(faces[0], world()) || faces[:3][2].Module != "low" {
		t.Error("the faces are changed")
	}
	faces[0].Vars[3].Label, faces[0].Procs[6].Params[1] = api.Low, api.Low
	tryFault(t, text, faces, api.Fault{Code: api.ErrLabel, At: lastOf(text, api.NSet)})
	second, f := Check(text, []api.Face{world()})
	if f != (api.Fault{}) || !reflect.DeepEqual(first, second) {
		t.Errorf("the second answer is another: %v", f)
	}
	first.Kids[0].Text, first.Kids[4].Kids[0].Num = "?", 9
	if third, _ := Check(text, []api.Face{world()}); !reflect.DeepEqual(second, third) {
		t.Error("answers share memory")
	}
}
