package order

import (
	"slices"
	"strconv"
	"strings"
	"testing"

	"dryshod/api"
	"dryshod/check"
	"dryshod/face"
)

// mainText is a module that a program can begin with.
const mainText = "module main;pub proc main()low{}"

func tryOrder(t *testing.T, texts []string, want ...int) {
	t.Helper()
	if got, trouble := Order(texts); trouble != (api.Trouble{}) || !slices.Equal(got, want) {
		t.Errorf("Order(%q) = %v, %v; want %v", texts, got, trouble, want)
	}
}

func tryTrouble(t *testing.T, want api.Trouble, texts ...string) {
	t.Helper()
	if got, trouble := Order(texts); trouble != want || len(got) > 0 {
		t.Errorf("Order(%.300q) = %v, %v; want the trouble %v", texts, got, trouble, want)
	}
}

// chain answers so many modules, the first one main; each imports the next one.
func chain(count int) []string {
	texts := []string{mainText}
	for i := 1; i < count; i++ {
		texts[i-1] = strings.Replace(texts[i-1], ";", ";import m"+strconv.Itoa(i)+";", 1)
		texts = append(texts, "module m"+strconv.Itoa(i)+";")
	}
	return texts
}

// F1: how many texts there may be, told ahead of all else.
func TestF1Size(t *testing.T) {
	size := api.Trouble{Code: api.ErrSize}
	tryTrouble(t, size)
	tryTrouble(t, size, []string{}...)
	tryTrouble(t, size, chain(api.MaxModules+1)...)
	tryTrouble(t, size, slices.Repeat([]string{"?"}, api.MaxModules+1)...)
	tryTrouble(t, size, slices.Repeat([]string{mainText}, 100000)...)
	tryOrder(t, []string{mainText}, 0)
	tryOrder(t, chain(api.MaxModules), 5, 4, 3, 2, 1, 0)
	tryTrouble(t, api.Trouble{Module: 1, Code: api.ErrTwice}, slices.Repeat([]string{mainText}, api.MaxModules)...)
}

// F1: the fault of face.Of, of the first text that has one.
func TestF1Of(t *testing.T) {
	for _, text := range []string{
		"", "?", "module a", "module low;", "module a;low 07;", "module a;x=1;", strings.Repeat(" ", api.MaxText+1),
		"module a;import a;", "module a;import b;import b;", "module a;low x;high x;", "module a;low x[0];", "module a;low y;low x[65];",
		"module a;proc p(low x,low x)low{}", "module a;proc p(low a,low b,low c,low d,low e,low f)low{}",
		"module a;import b;import c;import d;import e;import f;import g;",
		"module a;proc p()low{x=" + strings.Repeat("-", api.MaxDepth) + "1;}",
	} {
		_, _, fault := face.Of(text)
		if fault.Code == api.OK {
			t.Fatalf("face.Of(%q) tells no fault", text)
		}
		want := func(number int) api.Trouble {
			return api.Trouble{Module: number, Code: fault.Code, At: fault.At}
		}
		tryTrouble(t, want(0), text)
		tryTrouble(t, want(0), text, mainText)
		tryTrouble(t, want(1), mainText, text)
		tryTrouble(t, want(0), text, "??", "module b;low x[0];")
		tryTrouble(t, want(2), mainText, "module b;", text, "?")
		tryTrouble(t, want(5), mainText, "module b;", "module c;", "module d;", "module e;", text)
		// Ahead of names that are alike, imports that are missing or round about, and faults of check.
		tryTrouble(t, want(2), mainText, mainText, text)
		tryTrouble(t, want(1), "module main;import z;", text)
		tryTrouble(t, want(2), "module main;import c;", "module c;import main;", text)
		tryTrouble(t, want(1), "module main;proc p()low{z=1;}", text)
	}
}

// F1: no two modules have one name.
func TestF1Twice(t *testing.T) {
	twice := func(number int) api.Trouble { return api.Trouble{Module: number, Code: api.ErrTwice} }
	tryTrouble(t, twice(1), "module a;", "module a;")
	tryTrouble(t, twice(1), mainText, mainText)
	tryTrouble(t, twice(2), mainText, "module a;", "module a;low x;")
	tryTrouble(t, twice(2), "module a;", mainText, "module a;")
	tryTrouble(t, twice(5), "module a;", mainText, "module b;", "module c;", "module d;", "module a;")
	tryTrouble(t, twice(2), "module a;", "module b;", "module b;", "module a;")
	tryTrouble(t, twice(2), "module a;", "module b;", "module a;", "module b;")
	tryTrouble(t, twice(1), "module a;", "module a;", "module a;", mainText)
	// Ahead of imports that are missing or round about, faults of check, and a missing main.
	tryTrouble(t, twice(1), "module a;import z;", "module a;")
	tryTrouble(t, twice(2), "module a;import b;", "module b;import a;", "module a;")
	tryTrouble(t, twice(1), "module a;proc p()low{z=1;}", "module a;")
	tryOrder(t, []string{mainText, "module a;", "module A;", "module aa;", "module a_;", "module Main;"}, 0, 1, 2, 3, 4, 5)
}

// F1: each import is one of the program's modules.
func TestF1Imports(t *testing.T) {
	missing := func(number, at int) api.Trouble {
		return api.Trouble{Module: number, Code: api.ErrName, At: at}
	}
	tryTrouble(t, missing(0, 1), "module main;import a;pub proc main()low{}")
	tryTrouble(t, missing(1, 1), mainText, "module a;import b;")
	tryTrouble(t, missing(1, 1), mainText, "module a;import A;")
	tryTrouble(t, missing(1, 2), mainText, "module a;import main;import b;")
	tryTrouble(t, missing(0, 3), "module a;import b;import main;import c;import d;", mainText, "module b;import z;")
	tryTrouble(t, missing(2, 5), mainText, "module a;", "module e;import a;import b;import c;import main;import z;", "module b;", "module c;")
	tryTrouble(t, missing(0, 2), "module a;import b;import z;low x[3];", "module b;import y;")
	// Ahead of imports that are round about, faults of check, and a missing main.
	tryTrouble(t, missing(2, 1), "module a;import b;", "module b;import a;", "module c;import z;")
	tryTrouble(t, missing(1, 2), "module a;import b;", "module b;import a;import z;")
	tryTrouble(t, missing(1, 1), "module a;proc p()low{z=1;}", "module b;import z;")
	tryTrouble(t, missing(0, 1), "module a;import z;proc p()low{y=1;}")
}

// F2: each time the first text that is not taken, and all of whose imports are.
func TestF2Order(t *testing.T) {
	main := func(imports string) string { return "module main;" + imports + "pub proc main()low{}" }
	tryOrder(t, []string{main("import a;"), "module a;"}, 1, 0)
	tryOrder(t, []string{"module a;", main("import a;")}, 0, 1)
	tryOrder(t, []string{"module a;import main;", main("")}, 1, 0)
	tryOrder(t, []string{"module a;", "module b;", main("")}, 0, 1, 2)
	// Behind one that is taken the first one is asked for anew.
	tryOrder(t, []string{"module a;import c;", main(""), "module c;", "module d;"}, 1, 2, 0, 3)
	tryOrder(t, []string{"module a;import b;", "module b;import c;", "module c;", main("")}, 2, 1, 0, 3)
	tryOrder(t, []string{"module a;import d;", "module b;import main;", main(""), "module d;"}, 2, 1, 3, 0)
	tryOrder(t, []string{main("import b;import a;"), "module a;", "module b;"}, 1, 2, 0)
	tryOrder(t, []string{main("import d;import c;"), "module b;import d;", "module c;import b;", "module d;"}, 3, 1, 2, 0)
	tryOrder(t, []string{"module a;import f;", "module b;import main;", "module c;import f;", main("import f;"), "module e;import a;import b;", "module f;"}, 5, 0, 2, 3, 1, 4)
	tryOrder(t, []string{main("import e;"), "module a;import main;", "module b;", "module c;import a;import b;", "module d;import c;import main;", "module e;"}, 2, 5, 0, 1, 3, 4)
}

// F2: imports that go round about leave texts over.
func TestF2Left(t *testing.T) {
	left := func(number int) api.Trouble { return api.Trouble{Module: number, Code: api.ErrKind} }
	tryTrouble(t, left(0), "module a;import b;", "module b;import a;")
	tryTrouble(t, left(0), "module main;import a;pub proc main()low{}", "module a;import main;")
	tryTrouble(t, left(1), mainText, "module a;import b;", "module b;import a;")
	tryTrouble(t, left(2), mainText, "module a;import main;", "module b;import c;", "module c;import d;", "module d;import b;", "module e;")
	tryTrouble(t, left(4), mainText, "module a;import main;", "module d;", "module e;", "module b;import c;", "module c;import b;")
	// The first one that is left need not be one of those that go round.
	tryTrouble(t, left(0), "module a;import b;", mainText, "module b;import c;", "module c;import b;")
	tryTrouble(t, left(1), "module d;import e;", "module a;import b;", mainText, "module b;import c;", "module c;import b;", "module e;")
	tryTrouble(t, left(3), mainText, "module d;", "module e;import main;", "module a;import c;", "module b;import c;", "module c;import b;")
	// Ahead of faults of check, of those that can be taken, too, and of a missing main.
	tryTrouble(t, left(1), "module main;proc p()low{z=1;}", "module a;import b;", "module b;import a;")
	tryTrouble(t, left(1), "module c;", "module a;import b;", "module b;import a;proc p()low{z=1;}")
	all := chain(api.MaxModules)
	all[5] = "module m5;import main;"
	tryTrouble(t, left(0), all...)
	all[5] = "module m5;import m4;"
	tryTrouble(t, left(0), all...)
}

// F3: the fault of check.Check, of the first text in the order that has one.
func TestF3Check(t *testing.T) {
	for _, stats := range []string{
		"z=1;", "a.z=1;", "b.x=1;", "a.n=1;", "a.x[0]=1;", "do a.p();", "do a.q(1);", "out low a.h;", "a.x=a.h;", "if(a.h){out low 1;}", "return 1;", "do main(1);",
	} {
		text := "module main;import a;pub proc main()low{" + stats + "}"
		a := "module a;pub low x;pub high h;low n;proc p()low{}pub proc q()low{}"
		known, _, _ := face.Of(a)
		_, fault := check.Check(text, []api.Face{known})
		if fault.Code == api.OK {
			t.Fatalf("check.Check(%q) tells no fault", text)
		}
		want := func(number int) api.Trouble {
			return api.Trouble{Module: number, Code: fault.Code, At: fault.At}
		}
		tryTrouble(t, want(0), text, a)
		tryTrouble(t, want(1), a, text)
		tryTrouble(t, want(1), a, text, "module b;pub low x;")
		tryTrouble(t, want(0), text, a, "module c;import main;proc p()low{z=1;}")
		tryTrouble(t, want(5), "module c;", a, "module b;pub low x;", "module d;", "module e;", text)
	}
	bad := func(head string) string { return head + "proc p()low{z=1;}" }
	named := func(number, at int) api.Trouble {
		return api.Trouble{Module: number, Code: api.ErrName, At: at}
	}
	tryTrouble(t, named(1, 4), bad("module main;import a;"), bad("module a;"))
	tryTrouble(t, named(0, 4), bad("module main;"), bad("module a;import main;"))
	tryTrouble(t, named(2, 4), bad("module main;import b;"), bad("module a;import b;import main;"), bad("module b;"))
	tryTrouble(t, named(1, 6), bad("module main;import a;import b;"), bad("module a;import b;low x;"), "module b;")
	tryTrouble(t, named(3, 4), "module c;", "module a;import b;", "module d;", bad("module b;"), bad("module e;"), mainText)
}

// F3: names behind a point are those of the module ahead of it, as it stands in the program.
func TestF3Faces(t *testing.T) {
	a := "module a;import b;pub low x;pub high h[3];pub proc give(high y)high gives high{b.h=y;return h[y]+b.h;}"
	b := "module b;pub high h;pub high x;pub low l[2];pub proc put(low y)low{l[y]=y;}"
	main := func(imports, stats string) string {
		return "module main;" + imports + "pub proc main()low{" + stats + "}"
	}
	good := "a.x=b.l[a.x];b.x=a.give(b.h);do b.put(a.x);a.h[b.x]=a.give(a.x);"
	tryOrder(t, []string{main("import a;import b;", good), a, b}, 2, 1, 0)
	tryOrder(t, []string{b, main("import b;import a;", good), a}, 0, 2, 1)
	tryTrouble(t, api.Trouble{Module: 0, Code: api.ErrLabel, At: 5}, main("import a;import b;", "a.x=b.x;"), a, b)
	tryTrouble(t, api.Trouble{Module: 0, Code: api.ErrLabel, At: 5}, main("import b;import a;", "a.x=b.x;"), a, b)
	// What a module imports is not imported by those that import it.
	tryTrouble(t, api.Trouble{Module: 0, Code: api.ErrName, At: 5}, main("import a;", "b.x=a.give(1);"), a, b)
	tryTrouble(t, api.Trouble{Module: 2, Code: api.ErrName, At: 5}, a, b, main("import b;", "a.x=1;b.x=1;"))
	tryTrouble(t, api.Trouble{Module: 2, Code: api.ErrName, At: 15}, a, main("import a;", ""), b+"proc p()low{a.x=1;}")
}

// F3: what a program begins with, told last of all.
func TestF3Main(t *testing.T) {
	missing := api.Trouble{Code: api.ErrName}
	for _, text := range []string{
		"module a;", "module a;pub proc main()low{}", "module Main;pub proc main()low{}", "module main_;pub proc main()low{}",
		"module main;", "module main;pub low main;", "module main;low main;", "module main;proc main()low{}", "module main;pub proc Main()low{}",
		"module main;pub proc main(low x)low{}", "module main;pub proc main(high x)low{}", "module main;pub proc main(low a,low b,low c,low d,low e)low{}",
		"module main;pub proc main()high{}", "module main;pub proc main()low gives low{return 1;}", "module main;pub proc main()low gives high{return 1;}",
		"module main;pub proc main()high gives high{return 1;}", "module main;pub proc p()low{}proc main()low{do p();}", "module main;pub proc start()low{}",
		"module main;pub proc a()low{}pub proc main()high{}pub proc b()low{}",
	} {
		tryTrouble(t, missing, text)
		tryTrouble(t, missing, "module b;", text)
		tryTrouble(t, missing, "module b;pub proc main()low{}", text, "module c;import b;pub proc main()low{do b.main();}")
		tryTrouble(t, api.Trouble{Module: 1, Code: api.ErrName, At: 4}, text, "module b;proc p()low{z=1;}")
	}
	for _, text := range []string{
		mainText, "module main;proc a(low main)high gives high{return main;}low b;pub proc main()low{}pub proc c()high{}",
		"module main;high x;pub proc main()low{in high x;out high x;do main();}",
	} {
		tryOrder(t, []string{text}, 0)
		tryOrder(t, []string{"module a;import main;proc p()low{do main.main();}", text}, 1, 0)
		tryOrder(t, []string{"module a;", "module b;pub proc main()high{}", text}, 0, 1, 2)
	}
}

// P3: texts are not changed, what is behind them is not read, and answers share nothing.
func TestMemory(t *testing.T) {
	all := append(chain(3), "?", mainText)
	texts := all[:3]
	before := slices.Clone(all)
	first, trouble := Order(texts)
	if trouble.Code != api.OK || !slices.Equal(all, before) {
		t.Fatalf("%v, or the texts are changed: %q", trouble, all)
	}
	first[0], first[1], first[2] = 7, 7, 7
	tryOrder(t, texts, 2, 1, 0)
	second, _ := Order(texts)
	texts[0], texts[2] = "?", "?"
	if !slices.Equal(second, []int{2, 1, 0}) {
		t.Errorf("the answer hangs on what the texts become: %v", second)
	}
}
