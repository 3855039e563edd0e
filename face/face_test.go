package face

import (
	"math"
	"reflect"
	"slices"
	"strconv"
	"strings"
	"testing"

	"dryshod/api"
	"dryshod/syntax"
)

// full has something in each of its fields.
func full() api.Face {
	return api.Face{
		Module: "m",
		Vars: []api.Var{
			{Name: "x", Pub: true, Label: api.High},
			{Name: "y", Pub: true, Size: 8},
		},
		Procs: []api.Proc{
			{Name: "p", Pub: true, Params: []int{api.High, api.Low}, Writes: api.High, Gives: true, Given: api.High},
			{Name: "q", Pub: true},
		},
	}
}

// change is one of what can be done to the face that full answers.
type change struct {
	what string
	do   func(f *api.Face)
}

// tryMay tries May at full, changed by each of these.
func tryMay(t *testing.T, want bool, changes ...change) {
	t.Helper()
	for _, c := range changes {
		f := full()
		c.do(&f)
		if got := May(f); got != want {
			t.Errorf("%s: May = %v; want %v", c.what, got, want)
		}
	}
}

// manyVars answers so many variables, no two with one name.
func manyVars(count int) []api.Var {
	var l []api.Var
	for i := range count {
		l = append(l, api.Var{Name: "v" + strconv.Itoa(i), Pub: true})
	}
	return l
}

// manyProcs answers so many procedures, no two with one name.
func manyProcs(count int) []api.Proc {
	var l []api.Proc
	for i := range count {
		l = append(l, api.Proc{Name: "r" + strconv.Itoa(i), Pub: true})
	}
	return l
}

var notNames = []string{
	"", " ", "1", "1a", "_a", "a b", " a", "a ", "a#", "#a", "a\n", "a.b", "a;", ";", "ä", "aä", "a\x00", "\xff",
	strings.Repeat("a", 17), strings.Repeat("a", api.MaxText+1),
	"do", "else", "gives", "high", "if", "import", "in", "low", "module", "out", "proc", "pub", "return", "while",
}

var goodNames = []string{"a", "Z", "a_", "a0_Z9", strings.Repeat("a", 16), "main", "Do", "doo", "lo", "lows", "IF"}

// D1: the module's, the variables' and the procedures' names.
func TestD1Names(t *testing.T) {
	try := func(want bool, name string) {
		tryMay(t, want,
			change{"module " + name, func(f *api.Face) { f.Module = name }},
			change{"variable " + name, func(f *api.Face) { f.Vars[1].Name = name }},
			change{"procedure " + name, func(f *api.Face) { f.Procs[0].Name = name }},
		)
	}
	for _, name := range notNames {
		try(false, name)
	}
	for _, name := range goodNames {
		try(true, name)
	}
	tryMay(t, false,
		change{"two variables alike", func(f *api.Face) { f.Vars[1].Name = "x" }},
		change{"two procedures alike", func(f *api.Face) { f.Procs[0].Name = "q" }},
		change{"a variable and a procedure alike", func(f *api.Face) { f.Procs[1].Name = "x" }},
	)
	tryMay(t, true,
		change{"a variable named as its module", func(f *api.Face) { f.Vars[0].Name = "m" }},
		change{"a procedure named as its module", func(f *api.Face) { f.Procs[0].Name = "m" }},
	)
}

// D1: how many there are.
func TestD1Counts(t *testing.T) {
	tryMay(t, true,
		change{"as it is", func(f *api.Face) {}},
		change{"nothing but a name", func(f *api.Face) { *f = api.Face{Module: "m"} }},
		change{"empty lists", func(f *api.Face) { f.Vars, f.Procs = []api.Var{}, []api.Proc{} }},
		change{"as many variables as may be", func(f *api.Face) { f.Vars, f.Procs = manyVars(api.MaxDecls), nil }},
		change{"as many procedures as may be", func(f *api.Face) { f.Vars, f.Procs = nil, manyProcs(api.MaxDecls) }},
		change{"as many of both as may be", func(f *api.Face) { f.Procs = manyProcs(api.MaxDecls - 2) }},
		change{"as many parameters as may be", func(f *api.Face) { f.Procs[1].Params = make([]int, api.MaxParams) }},
	)
	tryMay(t, false,
		change{"nothing", func(f *api.Face) { *f = api.Face{} }},
		change{"a variable too many", func(f *api.Face) { f.Vars, f.Procs = manyVars(api.MaxDecls+1), nil }},
		change{"a procedure too many", func(f *api.Face) { f.Vars, f.Procs = nil, manyProcs(api.MaxDecls+1) }},
		change{"one too many of both", func(f *api.Face) { f.Procs = manyProcs(api.MaxDecls - 1) }},
		change{"far too many", func(f *api.Face) { f.Vars = make([]api.Var, 1<<20) }},
		change{"a parameter too many", func(f *api.Face) { f.Procs[1].Params = make([]int, api.MaxParams+1) }},
	)
}

// D1: all else that a variable and a procedure have.
func TestD1Fields(t *testing.T) {
	for _, label := range []int{math.MinInt, -1, 2, 3, math.MaxInt} {
		tryMay(t, false,
			change{"a variable's label", func(f *api.Face) { f.Vars[1].Label = label }},
			change{"a first parameter's label", func(f *api.Face) { f.Procs[0].Params[0] = label }},
			change{"a last parameter's label", func(f *api.Face) { f.Procs[0].Params[1] = label }},
			change{"what it writes", func(f *api.Face) { f.Procs[0].Writes = label }},
			change{"what it gives", func(f *api.Face) { f.Procs[0].Given = label }},
			change{"what is not given", func(f *api.Face) { f.Procs[1].Given = label }},
		)
	}
	tryMay(t, false,
		change{"a variable that is not pub", func(f *api.Face) { f.Vars[0].Pub = false }},
		change{"a last variable that is not pub", func(f *api.Face) { f.Vars[1].Pub = false }},
		change{"a procedure that is not pub", func(f *api.Face) { f.Procs[0].Pub = false }},
		change{"a last procedure that is not pub", func(f *api.Face) { f.Procs[1].Pub = false }},
		change{"a size below 0", func(f *api.Face) { f.Vars[0].Size = -1 }},
		change{"a size far below 0", func(f *api.Face) { f.Vars[0].Size = math.MinInt }},
		change{"a size too great", func(f *api.Face) { f.Vars[0].Size = api.MaxArray + 1 }},
		change{"a size far too great", func(f *api.Face) { f.Vars[0].Size = math.MaxInt }},
		change{"something high that is not given", func(f *api.Face) { f.Procs[0].Gives = false }},
	)
	tryMay(t, true,
		change{"the least array", func(f *api.Face) { f.Vars[0].Size = 1 }},
		change{"the greatest array", func(f *api.Face) { f.Vars[0].Size = api.MaxArray }},
		change{"something low that is given", func(f *api.Face) { f.Procs[0].Given = api.Low }},
		change{"all low", func(f *api.Face) { f.Vars[0].Label, f.Procs[0].Writes, f.Procs[0].Params[0] = 0, 0, 0 }},
		change{"all high", func(f *api.Face) { f.Vars[1].Label, f.Procs[1].Writes, f.Procs[0].Params[1] = 1, 1, 1 }},
	)
}

// D1: Same hangs on each field, whether both may be or not.
func TestD1Same(t *testing.T) {
	changes := []change{
		{"module", func(f *api.Face) { f.Module = "n" }},
		{"no module", func(f *api.Face) { f.Module = "" }},
		{"no variables", func(f *api.Face) { f.Vars = nil }},
		{"fewer variables", func(f *api.Face) { f.Vars = f.Vars[:1] }},
		{"more variables", func(f *api.Face) { f.Vars = append(f.Vars, api.Var{}) }},
		{"another order of variables", func(f *api.Face) { slices.Reverse(f.Vars) }},
		{"a variable's name", func(f *api.Face) { f.Vars[1].Name = "z" }},
		{"whether a variable is pub", func(f *api.Face) { f.Vars[1].Pub = false }},
		{"a variable's label", func(f *api.Face) { f.Vars[1].Label = 1 }},
		{"a variable's size", func(f *api.Face) { f.Vars[1].Size = 0 }},
		{"no procedures", func(f *api.Face) { f.Procs = nil }},
		{"fewer procedures", func(f *api.Face) { f.Procs = f.Procs[:1] }},
		{"more procedures", func(f *api.Face) { f.Procs = append(f.Procs, api.Proc{}) }},
		{"another order of procedures", func(f *api.Face) { slices.Reverse(f.Procs) }},
		{"a procedure's name", func(f *api.Face) { f.Procs[0].Name = "z" }},
		{"whether a procedure is pub", func(f *api.Face) { f.Procs[0].Pub = false }},
		{"no parameters", func(f *api.Face) { f.Procs[0].Params = nil }},
		{"fewer parameters", func(f *api.Face) { f.Procs[0].Params = f.Procs[0].Params[:1] }},
		{"more parameters", func(f *api.Face) { f.Procs[1].Params = []int{0} }},
		{"a parameter's label", func(f *api.Face) { f.Procs[0].Params[1] = 1 }},
		{"another order of parameters", func(f *api.Face) { slices.Reverse(f.Procs[0].Params) }},
		{"what a procedure writes", func(f *api.Face) { f.Procs[1].Writes = 1 }},
		{"whether a procedure gives", func(f *api.Face) { f.Procs[1].Gives = true }},
		{"what a procedure gives", func(f *api.Face) { f.Procs[1].Given = 1 }},
	}
	for _, c := range changes {
		f, twin := full(), full()
		c.do(&f)
		c.do(&twin)
		if Same(f, full()) || Same(full(), f) {
			t.Errorf("%s: still the same", c.what)
		}
		if !Same(f, twin) || !Same(f, f) {
			t.Errorf("%s: not the same as itself", c.what)
		}
	}
	empty := api.Face{Vars: []api.Var{}, Procs: []api.Proc{}}
	if !Same(empty, api.Face{}) || !Same(api.Face{}, empty) {
		t.Error("an empty list is not like nil")
	}
	a, b := full(), full()
	a.Procs[1].Params, b.Procs[1].Params = []int{}, nil
	if !Same(a, b) || !Same(b, a) {
		t.Error("an empty list of parameters is not like nil")
	}
}

// P3: neither changes what it is handed, nor hangs on what lies behind a length.
func TestD1HandedIn(t *testing.T) {
	f := full()
	f.Vars = append(f.Vars, api.Var{Name: "hidden", Label: 9})[:2]
	f.Procs = append(f.Procs, api.Proc{Name: "hidden", Writes: 9})[:2]
	f.Procs[0].Params = append(f.Procs[0].Params, 9)[:2]
	if !May(f) || !Same(f, full()) || !Same(full(), f) {
		t.Error("what lies behind a length is looked at")
	}
	if !reflect.DeepEqual(f, full()) || f.Vars[:3][2].Label != 9 || f.Procs[:3][2].Writes != 9 || f.Procs[0].Params[:3][2] != 9 {
		t.Errorf("the face is changed: %v", f)
	}
}

func tryFault(t *testing.T, text string, code api.Errno, at int) {
	t.Helper()
	f, imports, fault := Of(text)
	if fault != (api.Fault{Code: code, At: at}) || !reflect.DeepEqual(f, api.Face{}) || len(imports) > 0 {
		t.Errorf("Of(%.120q) = %v, %v, %v; want the fault %d at %d", text, f, imports, fault, code, at)
	}
}

func tryFace(t *testing.T, text string, want api.Face, imports ...string) {
	t.Helper()
	f, l, fault := Of(text)
	if fault != (api.Fault{}) || !Same(f, want) || !slices.Equal(l, imports) {
		t.Errorf("Of(%.120q) = %v, %v, %v; want %v, %v", text, f, l, fault, want, imports)
	}
	if fault.Code == api.OK && !May(f) {
		t.Errorf("Of(%.120q) = %v, which may not be", text, f)
	}
}

// rows answers the text of a module with a row for each number from 0 on.
func rows(count int, row func(i string) string) string {
	text := "module m;"
	for i := range count {
		text += row(strconv.Itoa(i))
	}
	return text
}

func importRow(i string) string { return "import a" + i + ";" }
func varRow(i string) string    { return "low x" + i + ";" }
func procRow(i string) string   { return "proc p" + i + "()low{}" }

// D2: the fault of Parse is told first, whatever else is wrong.
func TestD2Parse(t *testing.T) {
	tryFault(t, "", api.ErrForm, 0)
	tryFault(t, "module m;import m", api.ErrForm, 17)
	tryFault(t, "module m;import m;low 1;", api.ErrForm, 22)
	tryFault(t, "module m;low x;low x;?", api.ErrForm, 21)
	tryFault(t, "module m;low x;low x;import a;", api.ErrForm, 21)
	tryFault(t, "module m;low x[9223372036854775808];", api.ErrRange, 15)
	tryFault(t, "module m;import "+strings.Repeat("m", 17)+";", api.ErrSize, 16)
	tryFault(t, "module m;import m;"+strings.Repeat(" ", api.MaxText), api.ErrSize, 0)
	tryFault(t, "module m;import m;proc p()low{low x="+strings.Repeat("-", 16)+"1;}", api.ErrSize, 0)
}

// D2: imports.
func TestD2Imports(t *testing.T) {
	tryFault(t, "module m;import m;", api.ErrTwice, 1)
	tryFault(t, "module m;import a;import m;", api.ErrTwice, 2)
	tryFault(t, "module m;import a;import a;", api.ErrTwice, 2)
	tryFault(t, "module m;import a;import b;import a;", api.ErrTwice, 3)
	most := rows(api.MaxModules-1, importRow)
	tryFace(t, most, api.Face{Module: "m"}, "a0", "a1", "a2", "a3", "a4")
	tryFault(t, most+"import b;", api.ErrSize, 6)
	tryFault(t, most+"import a4;", api.ErrTwice, 6)
	tryFault(t, most+"import m;", api.ErrTwice, 6)
	tryFault(t, most+"import b;import b;", api.ErrSize, 6)
	tryFault(t, most+"import b;low x;low x;", api.ErrSize, 6)
	tryFace(t, "module m;import M;", api.Face{Module: "m"}, "M")
}

// D2: declarations.
func TestD2Declarations(t *testing.T) {
	tryFault(t, "module m;low x;high x;", api.ErrTwice, 2)
	tryFault(t, "module m;low x;pub low y;low x;", api.ErrTwice, 3)
	tryFault(t, "module m;low x;proc x()low{}", api.ErrTwice, 2)
	tryFault(t, "module m;proc x()low{}high x[2];", api.ErrTwice, 3)
	tryFault(t, "module m;proc x()low{}pub proc x(low a)high gives low{}", api.ErrTwice, 3)
	tryFace(t, "module m;import a;low a;proc m(low a,low m)low{low a=1;low a=2;}", api.Face{Module: "m"}, "a")
	for _, row := range []func(string) string{varRow, procRow} {
		most := rows(api.MaxDecls, row)
		module, _ := syntax.Parse(most)
		next := count(module)
		tryFace(t, most, api.Face{Module: "m"})
		tryFault(t, most+"low y;", api.ErrSize, next)
		tryFault(t, most+"proc y()low{}", api.ErrSize, next)
		tryFault(t, most+"low y[0];", api.ErrSize, next)
		tryFault(t, most+"proc y(low a,low a,low a,low a,low a,low a)low{}", api.ErrSize, next)
		tryFault(t, most+"proc y(low a,low a)low{}", api.ErrSize, next)
		tryFault(t, most+row("19"), api.ErrTwice, next)
		tryFault(t, most+row("0")+"low y;", api.ErrTwice, next)
		tryFault(t, most+"low y;"+row("0"), api.ErrSize, next)
	}
}

// count answers how many nodes n has.
func count(n api.Node) int {
	sum := 1
	for _, kid := range n.Kids {
		sum += count(kid)
	}
	return sum
}

// D2: the number of a variable.
func TestD2Numbers(t *testing.T) {
	tryFault(t, "module m;low x[0];", api.ErrRange, 1)
	tryFault(t, "module m;low x[65];", api.ErrRange, 1)
	tryFault(t, "module m;high x[4294967297];", api.ErrRange, 1)
	tryFault(t, "module m;pub high x[9223372036854775807];", api.ErrRange, 1)
	tryFault(t, "module m;low x[1];low y[64];low z[0];", api.ErrRange, 5)
	tryFault(t, "module m;low x;low x[0];", api.ErrTwice, 2)
	tryFault(t, "module m;low x[0];low x;", api.ErrRange, 1)
	tryFault(t, "module m;import m;low x[0];", api.ErrTwice, 1)
}

// D2: parameters.
func TestD2Parameters(t *testing.T) {
	tryFault(t, "module m;proc p(low a,high a)low{}", api.ErrTwice, 3)
	tryFault(t, "module m;proc p(low a,high b,low a)low{}", api.ErrTwice, 4)
	tryFault(t, "module m;proc p(low a,low b,low c,low d,low e,low f)low{}", api.ErrSize, 1)
	tryFault(t, "module m;proc p(low a,low a,low c,low d,low e,low f)low{}", api.ErrSize, 1)
	tryFault(t, "module m;proc p(low a,low b,low c,low d,low a)low{}", api.ErrTwice, 6)
	tryFault(t, "module m;low p;proc p(low a,low b,low c,low d,low e,low f)low{}", api.ErrTwice, 2)
	tryFault(t, "module m;low p;proc p(low a,low a)low{}", api.ErrTwice, 2)
	tryFault(t, "module m;proc p(low a,low a)low{}low p;", api.ErrTwice, 3)
	tryFace(t, "module m;proc p(low a,low b)low{}proc q(low a,low b)low{}proc r(low p,low r)low{}", api.Face{Module: "m"})
}

// D2: nodes are counted a node ahead of its kids, those of blocks, too.
func TestD2Places(t *testing.T) {
	// The module 0, import 1, x 2, its number 3, p 4, a 5, b 6, the block 7.
	ahead := "module m;import a;low x[3];proc p(low a,high b)low gives low{"
	tryFault(t, ahead+"}low x;", api.ErrTwice, 8)
	tryFault(t, ahead+"return 1;}low x;", api.ErrTwice, 10)
	tryFault(t, ahead+"if(a==1){x[a]=b;}else{}do p(-1,a.b+2);}low y[0];", api.ErrRange, 25)
	tryFault(t, ahead+"while(!a){in low x[0];out high(x[1]);}high a=a;}proc q(low a,low a)low{}", api.ErrTwice, 22)
}

// D3: the face of a module, and what it imports.
func TestD3Face(t *testing.T) {
	tryFace(t, "module m;import a;pub low x;proc p()low{}",
		api.Face{Module: "m", Vars: []api.Var{{Name: "x", Pub: true}}}, "a")
	tryFace(t, "module m;", api.Face{Module: "m"})
	tryFace(t, "module long_Name_of_16_;low x;proc p()high{}", api.Face{Module: "long_Name_of_16_"})
	tryFace(t, "module m;import z;import a;import k;", api.Face{Module: "m"}, "z", "a", "k")
	tryFace(t, "module m;pub high z;low n;pub low y;high k[3];pub low x[1];pub high w[64];",
		api.Face{Module: "m", Vars: []api.Var{
			{Name: "z", Pub: true, Label: api.High},
			{Name: "y", Pub: true},
			{Name: "x", Pub: true, Size: 1},
			{Name: "w", Pub: true, Label: api.High, Size: 64},
		}})
	tryFace(t, "module m;pub proc c()low{}pub low x;proc n(high a)high{}pub proc b(low a,high b,high c,low d,high e)high{}"+
		"pub proc a()low gives low{return 1;}pub high y;pub proc d(high h)high gives high{return 1;}pub proc e()low gives high{}",
		api.Face{
			Module: "m",
			Vars:   []api.Var{{Name: "x", Pub: true}, {Name: "y", Pub: true, Label: api.High}},
			Procs: []api.Proc{
				{Name: "c", Pub: true},
				{Name: "b", Pub: true, Params: []int{0, 1, 1, 0, 1}, Writes: api.High},
				{Name: "a", Pub: true, Gives: true},
				{Name: "d", Pub: true, Params: []int{1}, Writes: api.High, Gives: true, Given: api.High},
				{Name: "e", Pub: true, Gives: true, Given: api.High},
			},
		})
}

// D3: what is not for others is not asked of by this chapter.
func TestD3OnlyDeclarations(t *testing.T) {
	tryFace(t, "module m;pub proc p()low gives low{do q.r(1);x=y;high x=1;low z=x;return w;out low z;}",
		api.Face{Module: "m", Procs: []api.Proc{{Name: "p", Pub: true, Gives: true}}})
}

// P3: each answer is memory of its own, and so is each of its lists.
func TestD3NewMemory(t *testing.T) {
	text := "module m;import a;import b;pub low x;pub low y;pub proc p(low a,low b)low{}pub proc q(low a)low{}"
	f, imports, _ := Of(text)
	for i := range f.Procs {
		f.Procs[i].Params = append(f.Procs[i].Params, 7, 7, 7)
		f.Procs[i].Params[0] = 7
	}
	f.Vars[0].Name, imports[0] = "changed", "changed"
	if want := []int{7, 7, 7, 7}; !slices.Equal(f.Procs[1].Params, want) {
		t.Errorf("two lists share memory: %v", f.Procs)
	}
	tryFace(t, text, api.Face{
		Module: "m",
		Vars:   []api.Var{{Name: "x", Pub: true}, {Name: "y", Pub: true}},
		Procs:  []api.Proc{{Name: "p", Pub: true, Params: []int{0, 0}}, {Name: "q", Pub: true, Params: []int{0}}},
	}, "a", "b")
}
