package link

import (
	"math"
	"reflect"
	"slices"
	"strconv"
	"testing"

	"dryshod/api"
	"dryshod/face"
	"dryshod/machine"
	"dryshod/object"
)

func faceA() api.Face {
	return api.Face{
		Module: "a",
		Vars:   []api.Var{{Name: "x", Pub: true}, {Name: "hs", Pub: true, Label: api.High, Size: 2}},
		Procs:  []api.Proc{{Name: "add", Pub: true, Params: []int{api.Low, api.High}, Gives: true, Given: api.High}},
	}
}

func faceB() api.Face {
	return api.Face{Module: "b", Procs: []api.Proc{{Name: "twice", Pub: true}}}
}

func faceMain() api.Face {
	return api.Face{Module: "main", Procs: []api.Proc{{Name: "other", Pub: true, Params: []int{api.Low}}, {Name: "main", Pub: true}}}
}

// objectA answers a module that adds three to its variable x, when its add is called.
func objectA() api.Object {
	return api.Object{
		Face: faceA(),
		Code: []api.Instr{
			{Op: api.IJump, N: 3},
			{Op: api.IBack},
			{Op: api.ILoadLow, A: 1},
			{Op: api.IAdd, A: 1, B: 1, N: 3},
			{Op: api.IPutLow, A: 1},
			{Op: api.IJump, N: 1},
		},
		Relocs: []api.Reloc{
			{At: 0, Kind: api.RelocCode},
			{At: 2, Kind: api.RelocLow, Module: "a", Name: "x"},
			{At: 4, Kind: api.RelocLow, Module: "a", Name: "x"},
			{At: 5, Kind: api.RelocCode},
		},
		Procs: []api.Place{{Name: "add", At: 2}},
		Lows:  []api.Place{{Name: "own"}, {Name: "x", At: 4}},
		Highs: []api.Place{{Name: "hs", At: 1}},
		Low:   5, High: 3, LowFrame: 2, HighFrame: 7,
	}
}

// objectB answers a module that calls a's add twice, and makes the second item
// of its hs what its x is.
func objectB() api.Object {
	return api.Object{
		Face:    faceB(),
		Imports: []api.Face{faceA()},
		Code: []api.Instr{
			{Op: api.ICall},
			{Op: api.ICall},
			{Op: api.ILoadLow, A: 2},
			{Op: api.IPutHi, A: 2, N: 1},
			{Op: api.IBack},
		},
		Relocs: []api.Reloc{
			{At: 0, Kind: api.RelocProc, Module: "a", Name: "add"},
			{At: 1, Kind: api.RelocProc, Module: "a", Name: "add"},
			{At: 2, Kind: api.RelocLow, Module: "a", Name: "x"},
			{At: 3, Kind: api.RelocHigh, Module: "a", Name: "hs"},
		},
		Procs: []api.Place{{Name: "twice"}},
		High:  10, LowFrame: 6,
	}
}

// objectMain answers a module that calls b's twice, and tells what is where.
func objectMain() api.Object {
	return api.Object{
		Face:    faceMain(),
		Imports: []api.Face{faceB(), faceA()},
		Code: []api.Instr{
			{Op: api.IHalt},
			{Op: api.IMove, A: 5, B: 6},
			{Op: api.ISet, A: 1, N: 40},
			{Op: api.IPutLow, A: 1},
			{Op: api.IPutHi, A: 1},
			{Op: api.ICall},
			{Op: api.ILoadLow, A: 1},
			{Op: api.IOutLow, A: 1},
			{Op: api.ILoadHi, A: 1, N: 1},
			{Op: api.IOutHi, A: 1},
			{Op: api.ILoadHi, A: 1},
			{Op: api.IOutHi, A: 1},
			{Op: api.IZero, A: 2, N: 13},
			{Op: api.IBack},
		},
		Relocs: []api.Reloc{
			{At: 3, Kind: api.RelocLow, Module: "main", Name: "x"},
			{At: 4, Kind: api.RelocHigh, Module: "main", Name: "x"},
			{At: 5, Kind: api.RelocProc, Module: "b", Name: "twice"},
			{At: 6, Kind: api.RelocLow, Module: "a", Name: "x"},
			{At: 8, Kind: api.RelocHigh, Module: "a", Name: "hs"},
			{At: 10, Kind: api.RelocHigh, Module: "main", Name: "x"},
			{At: 12, Kind: api.RelocCode},
		},
		Procs: []api.Place{{Name: "other"}, {Name: "main", At: 1}},
		Lows:  []api.Place{{Name: "x", At: 1}},
		Highs: []api.Place{{Name: "x"}},
		Low:   2, High: 1, LowFrame: 3, HighFrame: 4,
	}
}

// three answers objects that can be linked: main, a and b.
func three() []api.Object { return []api.Object{objectMain(), objectA(), objectB()} }

// try: Link answers what is wanted of objects, and so does the second telling.
func try(t *testing.T, name string, l []api.Object, want api.Trouble) api.Image {
	t.Helper()
	image, got := Link(l)
	if got != want {
		t.Errorf("%s: Link tells %v; want %v", name, got, want)
	}
	again, second := told(l)
	if second != got {
		t.Errorf("%s: Link tells %v; told a second time it is %v", name, got, second)
	}
	isEmpty := image.Code == nil && image.Low == 0 && image.High == 0
	if got != (api.Trouble{}) && !isEmpty {
		t.Errorf("%s: with %v there is an image: %v", name, got, image)
	}
	if image.Low != again.Low || image.High != again.High || !slices.Equal(image.Code, again.Code) {
		t.Errorf("%s: Link answers %v; told a second time it is %v", name, image, again)
	}
	if got == (api.Trouble{}) && !machine.May(image) {
		t.Errorf("%s: Link answers what may not be: %v", name, image)
	}
	return image
}

// change is one at the three objects, and what is told then.
type change struct {
	name string
	want api.Trouble
	make func(l []api.Object)
}

func tryChanges(t *testing.T, changes ...change) {
	t.Helper()
	try(t, "three", three(), api.Trouble{})
	for _, c := range changes {
		l := three()
		c.make(l)
		try(t, c.name, l, c.want)
	}
}

// empty answers an object that has a name alone.
func empty(module string) api.Object { return api.Object{Face: api.Face{Module: module}} }

func TestK1Size(t *testing.T) {
	try(t, "nil", nil, api.Trouble{Code: api.ErrSize})
	try(t, "none", []api.Object{}, api.Trouble{Code: api.ErrSize})
	l := three()
	for len(l) < api.MaxModules {
		l = append(l, empty("n"+strconv.Itoa(len(l))))
		try(t, "more", l, api.Trouble{})
	}
	try(t, "one more than may be", append(l, empty("m")), api.Trouble{Code: api.ErrSize})
	try(t, "though one has no form", append(l, api.Object{}), api.Trouble{Code: api.ErrSize})
	try(t, "many of no form", make([]api.Object, 1000), api.Trouble{Code: api.ErrSize})
}

func TestK1Form(t *testing.T) {
	for number := range three() {
		want := api.Trouble{Module: number, Code: api.ErrForm}
		tryChanges(t,
			change{"nothing", want, func(l []api.Object) { l[number] = api.Object{} }},
			change{"its name", want, func(l []api.Object) { l[number].Face.Module = "if" }},
			change{"its face", want, func(l []api.Object) { l[number].Face.Procs[0].Pub = false }},
			change{"an import of its own", want, func(l []api.Object) { l[number].Imports = []api.Face{l[number].Face} }},
			change{"an order", want, func(l []api.Object) { l[number].Code[0] = api.Instr{} }},
			change{"a field that is not named", want, func(l []api.Object) { l[number].Code[0] = api.Instr{Op: api.IBack, N: 1} }},
			change{"a register", want, func(l []api.Object) { l[number].Code[0] = api.Instr{Op: api.ISet, A: api.Regs} }},
			change{"a reloc", want, func(l []api.Object) { l[number].Relocs[0].Kind = 0 }},
			change{"where a reloc is", want, func(l []api.Object) { l[number].Relocs[0].At = -1 }},
			change{"where the last one is", want, func(l []api.Object) { l[number].Relocs[3].At = math.MaxInt }},
			change{"relocs that do not rise", want, func(l []api.Object) { l[number].Relocs[1].At = l[number].Relocs[0].At }},
			change{"where a procedure is", want, func(l []api.Object) { l[number].Procs[0].At = math.MinInt }},
			change{"a variable", want, func(l []api.Object) { l[number].Lows = []api.Place{{Name: "z", At: l[number].Low}} }},
			change{"its words", want, func(l []api.Object) { l[number].Low, l[number].Lows = -1, nil }},
			change{"more words", want, func(l []api.Object) { l[number].High = api.MaxWords + 1 }},
			change{"its frame", want, func(l []api.Object) { l[number].HighFrame = math.MaxInt }},
			change{"those behind it have none", want, func(l []api.Object) { clear(l[number:]) }},
		)
	}
}

func TestK1Twice(t *testing.T) {
	twice := func(number int) api.Trouble { return api.Trouble{Module: number, Code: api.ErrTwice} }
	tryChanges(t,
		change{"the second one", twice(1), func(l []api.Object) { l[1] = objectMain() }},
		change{"the third one", twice(2), func(l []api.Object) { l[2] = objectMain() }},
		change{"next to it", twice(2), func(l []api.Object) { l[2] = objectA() }},
		change{"all of them", twice(1), func(l []api.Object) { l[1], l[2] = objectMain(), objectMain() }},
		change{"with another face", twice(2), func(l []api.Object) { l[2] = empty("a") }},
		change{"of no form", api.Trouble{Module: 2, Code: api.ErrForm}, func(l []api.Object) { l[2] = objectA(); l[2].Low = -1 }},
		change{"ahead of one of no form", twice(1), func(l []api.Object) { l[1], l[2] = empty("main"), api.Object{} }},
		change{"behind one of no form", api.Trouble{Module: 1, Code: api.ErrForm}, func(l []api.Object) { l[1], l[2] = api.Object{}, empty("main") }},
		change{"ahead of an import", twice(2), func(l []api.Object) { l[0].Imports[0].Module, l[2] = "z", objectA() }},
	)
}

func TestK1Imports(t *testing.T) {
	name := func(number, at int) api.Trouble { return api.Trouble{Module: number, Code: api.ErrName, At: at} }
	tryChanges(t,
		change{"the first one", name(0, 0), func(l []api.Object) { l[0].Imports[0].Module = "z" }},
		change{"the last one", name(0, 1), func(l []api.Object) { l[0].Imports[1].Module = "z" }},
		change{"of the last object", name(2, 0), func(l []api.Object) { l[2].Imports[0].Module = "z" }},
		change{"one that nothing asks for", name(1, 1), func(l []api.Object) { l[1].Imports = []api.Face{faceB(), {Module: "z"}} }},
		change{"one that nothing asks for, and is there", api.Trouble{}, func(l []api.Object) { l[1].Imports = []api.Face{faceB()} }},
		change{"one that begins so", name(0, 2), func(l []api.Object) { l[0].Imports = append(l[0].Imports, api.Face{Module: "aa"}) }},
		change{"ahead of one that is another", name(0, 0), func(l []api.Object) { l[0].Imports[0].Module, l[0].Imports[1].Vars = "z", nil }},
		change{"behind one that is another", api.Trouble{Code: api.ErrKind}, func(l []api.Object) { l[0].Imports[0].Procs, l[0].Imports[1].Module = nil, "z" }},
		change{"of an object behind one that is another", api.Trouble{Code: api.ErrKind, At: 1}, func(l []api.Object) { l[0].Imports[1].Procs, l[2].Imports[0].Module = nil, "z" }},
		change{"ahead of a reloc", name(2, 0), func(l []api.Object) { l[0].Relocs[0].Name, l[2].Imports[0].Module = "z", "z" }},
	)
	if _, got := Link([]api.Object{objectMain(), objectA()}); got != name(0, 0) {
		t.Errorf("without b Link tells %v", got)
	}
	if _, got := Link([]api.Object{objectB(), objectMain()}); got != name(0, 0) {
		t.Errorf("without a Link tells %v", got)
	}
}

// K1: each way in which a face can have changed since others knew it.
func TestK1Changed(t *testing.T) {
	for i, make := range []func(f *api.Face){
		func(f *api.Face) { f.Vars[0].Name = "y" },
		func(f *api.Face) { f.Vars[0].Label = api.High },
		func(f *api.Face) { f.Vars[0].Size = 1 },
		func(f *api.Face) { f.Vars[1].Size = 3 },
		func(f *api.Face) { f.Vars[0], f.Vars[1] = f.Vars[1], f.Vars[0] },
		func(f *api.Face) { f.Vars = f.Vars[:1] },
		func(f *api.Face) { f.Vars = append(f.Vars, api.Var{Name: "z", Pub: true}) },
		func(f *api.Face) { f.Vars = nil },
		func(f *api.Face) { f.Procs[0].Name = "sub" },
		func(f *api.Face) { f.Procs[0].Params[0] = api.High },
		func(f *api.Face) { f.Procs[0].Params = f.Procs[0].Params[:1] },
		func(f *api.Face) { f.Procs[0].Params = append(f.Procs[0].Params, api.Low) },
		func(f *api.Face) { f.Procs[0].Writes = api.High },
		func(f *api.Face) { f.Procs[0].Given = api.Low },
		func(f *api.Face) { f.Procs[0].Gives, f.Procs[0].Given = false, api.Low },
		func(f *api.Face) { f.Procs = nil },
		func(f *api.Face) { f.Procs = append(f.Procs, api.Proc{Name: "z", Pub: true}) },
	} {
		name := "change " + strconv.Itoa(i)
		tryChanges(t,
			change{name + " of the object", api.Trouble{Code: api.ErrKind, At: 1}, func(l []api.Object) { make(&l[1].Face) }},
			change{name + " of what main knows", api.Trouble{Code: api.ErrKind, At: 1}, func(l []api.Object) { make(&l[0].Imports[1]) }},
			change{name + " of what b knows", api.Trouble{Module: 2, Code: api.ErrKind}, func(l []api.Object) { make(&l[2].Imports[0]) }},
			change{name + " of all", api.Trouble{}, func(l []api.Object) { make(&l[1].Face); make(&l[0].Imports[1]); make(&l[2].Imports[0]) }},
		)
	}
	tryChanges(t, change{"an empty list", api.Trouble{}, func(l []api.Object) {
		l[2].Face.Vars, l[2].Face.Procs[0].Params = []api.Var{}, []int{}
	}})
}

func TestK1Relocs(t *testing.T) {
	name := func(number, at int) api.Trouble { return api.Trouble{Module: number, Code: api.ErrName, At: at} }
	reloc := func(number, at int) func(kind int, module, name string) func(l []api.Object) {
		return func(kind int, module, name string) func(l []api.Object) {
			return func(l []api.Object) {
				r := &l[number].Relocs[at]
				r.Kind, r.Module, r.Name = kind, module, name
			}
		}
	}
	first, last, inA, inB := reloc(0, 0), reloc(0, 6), reloc(1, 1), reloc(2, 2)
	tryChanges(t,
		change{"no such module", name(0, 0), first(api.RelocLow, "z", "x")},
		change{"no such module, the last one", name(0, 6), last(api.RelocProc, "z", "x")},
		change{"no such name", name(0, 0), first(api.RelocLow, "main", "z")},
		change{"no such name of another", name(0, 6), last(api.RelocProc, "a", "z")},
		change{"of another kind", name(1, 1), inA(api.RelocHigh, "a", "x")},
		change{"a procedure as a low one", name(1, 1), inA(api.RelocLow, "a", "add")},
		change{"a low one as a procedure", name(1, 1), inA(api.RelocProc, "a", "x")},
		change{"a high one as a low one", name(1, 1), inA(api.RelocLow, "a", "hs")},
		change{"of a module that it does not know", name(1, 1), inA(api.RelocLow, "main", "x")},
		change{"a procedure of one that it does not know", name(1, 1), inA(api.RelocProc, "b", "twice")},
		change{"of one that others know", name(2, 2), inB(api.RelocLow, "main", "x")},
		change{"one that is not in the face", api.Trouble{}, inB(api.RelocLow, "a", "own")},
		change{"where an order begins, as a number", api.Trouble{}, inB(api.RelocProc, "a", "add")},
		change{"its own", api.Trouble{}, inB(api.RelocProc, "b", "twice")},
		change{"one that is in the face alone", name(0, 2), func(l []api.Object) { l[2].Procs = nil }},
		change{"a variable that is in the face alone", name(0, 3), func(l []api.Object) { l[1].Lows = l[1].Lows[:1] }},
		change{"ahead of another object's", name(0, 4), func(l []api.Object) { l[1].Highs, l[2].Relocs[0].Name = nil, "z" }},
		change{"ahead of no main", name(0, 6), func(l []api.Object) { last(api.RelocProc, "z", "x")(l); l[0].Procs[1].Name = "z" }},
		change{"ahead of too many words", name(0, 6), func(l []api.Object) { last(api.RelocProc, "z", "x")(l); l[2].LowFrame = api.MaxWords }},
		change{"ahead of an order beyond the image", name(2, 2), func(l []api.Object) { inB(api.RelocLow, "a", "z")(l); l[0].Code[12].N = 99 }},
	)
}

func TestK1Main(t *testing.T) {
	name := api.Trouble{Code: api.ErrName}
	tryChanges(t,
		change{"another module", name, func(l []api.Object) { l[0] = empty("m") }},
		change{"no such procedure", name, func(l []api.Object) { l[0].Face.Procs = nil }},
		change{"another one", name, func(l []api.Object) { l[0].Face.Procs[1].Name = "mains" }},
		change{"a parameter", name, func(l []api.Object) { l[0].Face.Procs[1].Params = []int{api.Low} }},
		change{"an empty list", api.Trouble{}, func(l []api.Object) { l[0].Face.Procs[1].Params = []int{} }},
		change{"it writes high alone", name, func(l []api.Object) { l[0].Face.Procs[1].Writes = api.High }},
		change{"it gives something", name, func(l []api.Object) { l[0].Face.Procs[1].Gives = true }},
		change{"it gives something high", name, func(l []api.Object) { l[0].Face.Procs[1].Gives, l[0].Face.Procs[1].Given = true, api.High }},
		change{"it is a variable", name, func(l []api.Object) { l[0].Face.Procs, l[0].Face.Vars = nil, []api.Var{{Name: "main", Pub: true}} }},
		change{"it is in the face alone", name, func(l []api.Object) { l[0].Procs[1].Name = "mains" }},
		change{"it is a low variable", name, func(l []api.Object) { l[0].Procs, l[0].Lows[0].Name, l[0].Relocs = nil, "main", nil }},
		change{"it is none of the module main", name, func(l []api.Object) {
			l[0].Face.Procs = l[0].Face.Procs[:1]
			l[2].Face.Procs, l[2].Procs = append(l[2].Face.Procs, api.Proc{Name: "main", Pub: true}), append(l[2].Procs, api.Place{Name: "main"})
			l[0].Imports[0] = l[2].Face
		}},
		change{"ahead of too many words", name, func(l []api.Object) { l[0].Procs[1].Name, l[2].High = "mains", api.MaxWords }},
		change{"ahead of an order beyond the image", name, func(l []api.Object) { l[0].Procs[1].Name, l[0].Code[12].N = "mains", 99 }},
		change{"it is the last order", api.Trouble{}, func(l []api.Object) { l[0].Procs[1].At = 13 }},
	)
	try(t, "main is the last one", []api.Object{objectA(), objectB(), objectMain()}, api.Trouble{})
	try(t, "others alone", []api.Object{objectA(), objectB()}, name)
}

// K2: the image, written out.
func TestK2Image(t *testing.T) {
	want := api.Image{
		Code: []api.Instr{
			{Op: api.ISet, A: 6, N: 7},
			{Op: api.ISet, A: 7, N: 14},
			{Op: api.ICall, N: 5},
			{Op: api.IHalt},
			{Op: api.IHalt}, // main, at 4; its low words at 0, its high one at 0
			{Op: api.IMove, A: 5, B: 6},
			{Op: api.ISet, A: 1, N: 40},
			{Op: api.IPutLow, A: 1, N: 1},
			{Op: api.IPutHi, A: 1, N: 0},
			{Op: api.ICall, N: 24},
			{Op: api.ILoadLow, A: 1, N: 6},
			{Op: api.IOutLow, A: 1},
			{Op: api.ILoadHi, A: 1, N: 3},
			{Op: api.IOutHi, A: 1},
			{Op: api.ILoadHi, A: 1, N: 0},
			{Op: api.IOutHi, A: 1},
			{Op: api.IZero, A: 2, N: 17},
			{Op: api.IBack},
			{Op: api.IJump, N: 21}, // a, at 18; its low words at 2, its high ones at 1
			{Op: api.IBack},
			{Op: api.ILoadLow, A: 1, N: 6},
			{Op: api.IAdd, A: 1, B: 1, N: 3},
			{Op: api.IPutLow, A: 1, N: 6},
			{Op: api.IJump, N: 19},
			{Op: api.ICall, N: 20}, // b, at 24; its high words at 4
			{Op: api.ICall, N: 20},
			{Op: api.ILoadLow, A: 2, N: 6},
			{Op: api.IPutHi, A: 2, N: 3},
			{Op: api.IBack},
		},
		Low:  7 + 31*6,
		High: 14 + 31*7,
	}
	if got := try(t, "three", three(), api.Trouble{}); !reflect.DeepEqual(got, want) {
		t.Errorf("Link answers %v; want %v", got, want)
	}
	least := empty("main")
	least.Face.Procs, least.Procs, least.Code = []api.Proc{{Name: "main", Pub: true}}, []api.Place{{Name: "main"}}, []api.Instr{{Op: api.IBack}}
	want = api.Image{Code: []api.Instr{{Op: api.ISet, A: 6}, {Op: api.ISet, A: 7}, {Op: api.ICall, N: 4}, {Op: api.IHalt}, {Op: api.IBack}}}
	if got := try(t, "the least one", []api.Object{least}, api.Trouble{}); !reflect.DeepEqual(got, want) {
		t.Errorf("Link answers %v; want %v", got, want)
	}
}

// K2: what is added to N, and that what is beyond 64 bits is lost.
func TestK2Added(t *testing.T) {
	for _, c := range []struct {
		op   int
		n    int64
		r    api.Reloc
		want int64
	}{
		{api.ISet, 0, api.Reloc{Kind: api.RelocCode}, 18},
		{api.ISet, -18, api.Reloc{Kind: api.RelocCode}, 0},
		{api.ISet, -19, api.Reloc{Kind: api.RelocCode}, -1},
		{api.ISet, math.MaxInt64, api.Reloc{Kind: api.RelocCode}, math.MinInt64 + 17},
		{api.ISet, math.MaxInt64 - 18, api.Reloc{Kind: api.RelocCode}, math.MaxInt64},
		{api.ISet, math.MinInt64, api.Reloc{Kind: api.RelocProc, Module: "a", Name: "add"}, math.MinInt64 + 20},
		{api.IAdd, math.MaxInt64, api.Reloc{Kind: api.RelocLow, Module: "a", Name: "own"}, math.MinInt64 + 1},
		{api.IPutHi, 1, api.Reloc{Kind: api.RelocHigh, Module: "a", Name: "hs"}, 3},
		{api.IPutLow, 5, api.Reloc{Kind: api.RelocHigh, Module: "a", Name: "hs"}, 7},
		{api.ILoadHi, -7, api.Reloc{Kind: api.RelocLow, Module: "a", Name: "x"}, -1},
		{api.ILoadLow, 1, api.Reloc{Kind: api.RelocProc, Module: "a", Name: "add"}, 21},
		{api.IJump, 22, api.Reloc{Kind: api.RelocLow, Module: "a", Name: "x"}, 28},
		{api.IZero, -18, api.Reloc{Kind: api.RelocCode}, 0},
		{api.ICheck, 62, api.Reloc{Kind: api.RelocHigh, Module: "a", Name: "hs"}, 64},
	} {
		l := three()
		l[1].Code[0] = api.Instr{Op: c.op, N: c.n}
		l[1].Relocs[0] = c.r
		if image := try(t, "added", l, api.Trouble{}); len(image.Code) < 19 || image.Code[18] != (api.Instr{Op: c.op, N: c.want}) {
			t.Errorf("%v of %d becomes %v", c.r, c.n, image.Code)
		}
	}
}

// long answers an object that has so many orders.
func long(module string, count int) api.Object {
	o := empty(module)
	o.Code = slices.Repeat([]api.Instr{{Op: api.IHalt}}, count)
	return o
}

func TestK2Size(t *testing.T) {
	size := api.Trouble{Code: api.ErrSize}
	// The three have 25 orders, and there are 4 ahead of them.
	try(t, "as many orders as may be", append(three(), long("z", api.MaxCode-29)), api.Trouble{})
	try(t, "one more order", append(three(), long("z", api.MaxCode-28)), size)
	try(t, "one more order, in another object", append(three(), long("y", 1), long("z", api.MaxCode-29)), size)
	try(t, "many more", append(three(), long("x", api.MaxCode), long("y", api.MaxCode), long("z", api.MaxCode)), size)
	// The three have 7 low and 14 high words, and 31 frames of 6 and of 7.
	low, high := api.MaxWords-7-31*6, api.MaxWords-14-31*7
	with := func(low, high, lowFrame, highFrame int) []api.Object {
		return append(three(), api.Object{Face: api.Face{Module: "z"}, Low: low, High: high, LowFrame: lowFrame, HighFrame: highFrame})
	}
	try(t, "as many words as may be", with(low, high, 6, 7), api.Trouble{})
	try(t, "one more low word", with(low+1, high, 6, 7), size)
	try(t, "one more high word", with(low, high+1, 6, 7), size)
	try(t, "one more word in low frames", with(low, high, 7, 7), size)
	try(t, "one more word in high frames", with(low, high, 6, 8), size)
	try(t, "as great frames as may be", with(api.MaxWords-7-31*644, api.MaxWords-14-31*644, 644, 644), api.Trouble{})
	try(t, "greater low frames", with(0, 0, 645, 0), size)
	try(t, "greater high frames", with(0, 0, 0, 645), size)
	try(t, "all that one may have", with(api.MaxWords, api.MaxWords, api.MaxWords, api.MaxWords), size)
	l := with(low, high+1, 6, 7)
	l[0].Code[12].N = 99
	try(t, "ahead of an order beyond the image", l, size)
}

func TestK2Range(t *testing.T) {
	wrong := func(number, at int) api.Trouble { return api.Trouble{Module: number, Code: api.ErrRange, At: at} }
	order := func(number, at int, o api.Instr) func(l []api.Object) {
		return func(l []api.Object) { l[number].Code[at] = o }
	}
	// The three have an image of 29 orders.
	for _, op := range []int{api.IJump, api.IZero, api.ICall} {
		tryChanges(t,
			change{"the first order", api.Trouble{}, order(0, 2, api.Instr{Op: op})},
			change{"below it", wrong(0, 2), order(0, 2, api.Instr{Op: op, N: -1})},
			change{"the last order", api.Trouble{}, order(2, 4, api.Instr{Op: op, N: 28})},
			change{"behind it", wrong(2, 4), order(2, 4, api.Instr{Op: op, N: 29})},
			change{"far behind it", wrong(1, 3), order(1, 3, api.Instr{Op: op, N: math.MaxInt64})},
			change{"far below the first", wrong(1, 3), order(1, 3, api.Instr{Op: op, N: math.MinInt64})},
			change{"a number of 32 bits", wrong(1, 3), order(1, 3, api.Instr{Op: op, N: 1 << 32})},
			change{"with a reloc, the first order", api.Trouble{}, order(0, 12, api.Instr{Op: op, N: -4})},
			change{"with a reloc, below it", wrong(0, 12), order(0, 12, api.Instr{Op: op, N: -5})},
			change{"with a reloc, the last order", api.Trouble{}, order(1, 0, api.Instr{Op: op, N: 10})},
			change{"with a reloc, behind it", wrong(1, 0), order(1, 0, api.Instr{Op: op, N: 11})},
			change{"with a reloc, beyond 64 bits", wrong(1, 0), order(1, 0, api.Instr{Op: op, N: math.MaxInt64})},
			change{"of several the first", wrong(0, 3), func(l []api.Object) {
				order(0, 3, api.Instr{Op: op, N: 29})(l)
				order(0, 12, api.Instr{Op: op, N: 29})(l)
				order(1, 0, api.Instr{Op: op, N: 29})(l)
			}},
			change{"of several the first object's", wrong(1, 5), func(l []api.Object) {
				order(1, 5, api.Instr{Op: op, N: 29})(l)
				order(2, 0, api.Instr{Op: op, N: 29})(l)
			}},
		)
	}
}

// K2: an order whose N is to be 0, or the size of an array, may have a reloc,
// too; it is refused where that makes N another number.
func TestK2RangeOthers(t *testing.T) {
	wrong := api.Trouble{Module: 1, Code: api.ErrRange}
	// What stands at the first low word adds nothing, as long as a stands first.
	nought := func(l []api.Object) {
		l[0], l[1] = l[1], l[0]
		l[0].Relocs[0] = api.Reloc{Kind: api.RelocLow, Module: "a", Name: "own"}
	}
	for _, o := range []api.Instr{
		{Op: api.IMove, A: 1, B: 2}, {Op: api.IBack}, {Op: api.IHalt}, {Op: api.IOutLow, A: 1}, {Op: api.IOutHi, A: 1}, {Op: api.IInLow, A: 1}, {Op: api.IInHi},
		{Op: api.IOp + api.OpAdd, A: 1, B: 2, C: 3}, {Op: api.IOp + api.OpSame},
	} {
		tryChanges(t,
			change{"a place", wrong, func(l []api.Object) { l[1].Code[0] = o }},
			change{"a low word", wrong, func(l []api.Object) {
				l[1].Code[0], l[1].Relocs[0] = o, api.Reloc{Kind: api.RelocLow, Module: "a", Name: "own"}
			}},
			change{"nought", api.Trouble{}, func(l []api.Object) { nought(l); l[0].Code[0] = o }},
			change{"nothing", api.Trouble{}, func(l []api.Object) { l[1].Code[0], l[1].Relocs = o, nil }},
		)
	}
	check := func(n int64) api.Instr { return api.Instr{Op: api.ICheck, N: n} }
	// A place in a's code adds 18.
	tryChanges(t,
		change{"as many as an array may have", api.Trouble{}, func(l []api.Object) { l[1].Code[0] = check(46) }},
		change{"one more", wrong, func(l []api.Object) { l[1].Code[0] = check(47) }},
		change{"the most", wrong, func(l []api.Object) { l[1].Code[0] = check(64) }},
		change{"with nought", api.Trouble{}, func(l []api.Object) { nought(l); l[0].Code[0] = check(64) }},
	)
}

// K3: objects in any order do the same, though their images are not alike.
func TestK3(t *testing.T) {
	var images []api.Image
	for _, order := range [][]int{{0, 1, 2}, {0, 2, 1}, {1, 0, 2}, {1, 2, 0}, {2, 0, 1}, {2, 1, 0}} {
		var l []api.Object
		for _, number := range order {
			l = append(l, three()[number])
		}
		image := try(t, "in another order", l, api.Trouble{})
		images = append(images, image)
		shown, _, code := machine.Run(image, nil, nil, api.MaxFuel)
		want := api.Shown{End: api.EndDone, Low: []int64{6}, High: []int64{6, 40}, Steps: 32}
		if code != api.OK || !reflect.DeepEqual(shown, want) {
			t.Errorf("in the order %v they show %v, %v; want %v", order, shown, code, want)
		}
	}
	for i, image := range images {
		if slices.ContainsFunc(images[:i], func(other api.Image) bool { return slices.Equal(other.Code, image.Code) }) {
			t.Errorf("two orders make one image: %v", image)
		}
	}
}

// copyOf answers an object that shares no memory with o.
func copyOf(t *testing.T, o api.Object) api.Object {
	t.Helper()
	b, _ := object.Put(o)
	again, code := object.Get(b)
	if code != api.OK {
		t.Fatalf("%v is told %v", o, code)
	}
	return again
}

// P3: what is handed in is neither changed nor kept, and nothing behind its
// lists is read or written.
func TestP3(t *testing.T) {
	l := append(three(), api.Object{})
	for i := range l[:3] {
		// Behind each list stands what would be told, if it were read.
		o := &l[i]
		o.Imports = append(o.Imports, api.Face{})[:len(o.Imports)]
		o.Code = append(o.Code, api.Instr{Op: 99})[:len(o.Code)]
		o.Relocs = append(o.Relocs, api.Reloc{Kind: 99})[:len(o.Relocs)]
		o.Procs = append(o.Procs, api.Place{Name: "99"})[:len(o.Procs)]
		o.Lows = append(o.Lows, api.Place{Name: "99"})[:len(o.Lows)]
		o.Highs = append(o.Highs, api.Place{Name: "99"})[:len(o.Highs)]
	}
	image := try(t, "with something behind", l[:3], api.Trouble{})
	for i, o := range l[:3] {
		want := three()[i]
		if !face.Same(o.Face, want.Face) || !reflect.DeepEqual(copyOf(t, o), copyOf(t, want)) {
			t.Errorf("the object %d is changed: %v", i, o)
		}
		if o.Code[:len(o.Code)+1][len(o.Code)].Op != 99 || o.Relocs[:len(o.Relocs)+1][len(o.Relocs)].Kind != 99 {
			t.Errorf("behind the lists of the object %d is written", i)
		}
	}
	if !reflect.DeepEqual(l[3], api.Object{}) {
		t.Error("behind the objects is written")
	}
	for _, o := range l[:3] {
		clear(o.Code)
	}
	want, _ := told(three())
	if !slices.Equal(image.Code, want.Code) {
		t.Error("the image has memory with the objects")
	}
	again := try(t, "three", three(), api.Trouble{})
	clear(image.Code[:cap(image.Code)])
	if !slices.Equal(again.Code, want.Code) {
		t.Error("two images have memory together")
	}
}
