package compile

import (
	"math/rand"
	"reflect"
	"slices"
	"strconv"
	"strings"
	"testing"

	"dryshod/api"
	"dryshod/check"
	"dryshod/face"
	"dryshod/object"
	"dryshod/syntax"
)

// faceOf answers the face of a text that has one.
func faceOf(t *testing.T, text string) api.Face {
	t.Helper()
	f, _, fault := face.Of(text)
	if fault != (api.Fault{}) {
		t.Fatalf("face.Of(%q) tells %v", text, fault)
	}
	return f
}

// made answers the object of a text without faults; it has the form of I1.
func made(t *testing.T, text string, faces ...api.Face) api.Object {
	t.Helper()
	o, fault := Make(text, faces)
	if fault != (api.Fault{}) {
		t.Fatalf("Make(%q, %v) tells %v", text, faces, fault)
	}
	if !object.May(o) {
		t.Errorf("Make(%q, %v) has not the form of I1: %v", text, faces, o)
	}
	return o
}

// rich has something of all that there is.
const rich = `module m; import a; import b;
pub low x; high y; pub low xs[3]; low ys[64]; pub high h; pub high hs[1];
pub proc p(low k, high j) low gives low { low s = k * (2 - x); j = s; y = j; do q(y); return s + p(xs[s], hs[0]); }
proc q(high j) high { high t = -j; if (t < 4) { h = !t; } else { hs[t] = j; } while (h) { h = h - 1; } out high t; }
pub proc r() low { in low x; in high hs[y]; out low a.x + a.p(1, x); b.hs[y] = b.v; do b.w(y); in low a.xs[1]; }`

func richFaces(t *testing.T) []api.Face {
	return []api.Face{
		faceOf(t, "module b;pub high hs[2];pub high v;pub proc w(high k)high{}"),
		faceOf(t, "module c;pub proc unused(low k)low{}"),
		faceOf(t, "module a;pub low x;pub low xs[2];pub proc p(low k,low j)low gives low{return 1;}"),
	}
}

// I2: check.Check's fault, of any of its kinds, and nothing else.
func TestI2Fault(t *testing.T) {
	may := faceOf(t, "module a;pub low x;pub proc p(low k)low{}")
	mayNot := may
	mayNot.Vars = []api.Var{{Name: "x"}}
	tries := []struct {
		text  string
		faces []api.Face
		want  api.Fault
	}{
		{"module m;", []api.Face{{}}, api.Fault{Code: api.ErrForm}},
		{"module m;", []api.Face{may, may}, api.Fault{Code: api.ErrForm}},
		{"module m;", []api.Face{may, mayNot}, api.Fault{Code: api.ErrForm}},
		{"?", []api.Face{mayNot}, api.Fault{Code: api.ErrForm}},
		{"", nil, api.Fault{Code: api.ErrForm}},
		{"module m", nil, api.Fault{Code: api.ErrForm, At: 8}},
		{"module m;low 07;", nil, api.Fault{Code: api.ErrForm, At: 13}},
		{strings.Repeat(" ", api.MaxText) + "module m;", nil, api.Fault{Code: api.ErrSize}},
		{"module m;low x;high x;", nil, api.Fault{Code: api.ErrTwice, At: 2}},
		{"module m;low x[65];", nil, api.Fault{Code: api.ErrRange, At: 1}},
		{"module m;import a;", nil, api.Fault{Code: api.ErrName, At: 1}},
		{"module m;import b;", []api.Face{may}, api.Fault{Code: api.ErrName, At: 1}},
		{"module m;high x;low y;proc p()low{y=x;}", nil, api.Fault{Code: api.ErrLabel, At: 5}},
		{"module m;proc p()low gives low{}", nil, api.Fault{Code: api.ErrForm, At: 1}},
		{"module m;proc p()low{return 1;}", nil, api.Fault{Code: api.ErrForm, At: 3}},
		{"module m;import a;proc p()low{a.x=a.y;}", []api.Face{may}, api.Fault{Code: api.ErrName, At: 6}},
		{"module m;import a;proc p()low{do a.p();}", []api.Face{may}, api.Fault{Code: api.ErrRange, At: 5}},
	}
	for _, one := range tries {
		if o, fault := Make(one.text, one.faces); fault != one.want || !reflect.DeepEqual(o, api.Object{}) {
			t.Errorf("Make(%.100q, %v) = %v, %v; want the fault %v", one.text, one.faces, o, fault, one.want)
		}
	}
}

// kindOf tells labels, other words that are no names, names, numbers and signs apart.
func kindOf(token string) int {
	switch {
	case token == "low" || token == "high":
		return 1
	case syntax.IsName(token):
		return 2
	case token[0] >= '0' && token[0] <= '9':
		return 3
	case token[0] >= 'a' && token[0] <= 'z':
		return 4
	}
	return 5
}

// change lets a token become another one, mostly of its kind.
func change(r *rand.Rand, tokens []string) {
	i, j := r.Intn(len(tokens)), r.Intn(len(tokens))
	for kindOf(tokens[i]) != kindOf(tokens[j]) && r.Intn(100) > 0 {
		j = r.Intn(len(tokens))
	}
	tokens[i] = tokens[j]
}

// I2: texts in which something is changed have check.Check's fault, or the form of I1.
func TestI2Any(t *testing.T) {
	r := rand.New(rand.NewSource(9))
	module, _ := syntax.Parse(rich)
	text, _ := syntax.Print(module)
	tokens := strings.Fields(text)
	codes := map[api.Errno]int{}
	for range 10000 {
		some := slices.Clone(tokens)
		for range r.Intn(3) {
			change(r, some)
		}
		text := strings.Join(some, " ")
		faces := richFaces(t)[r.Intn(2)*r.Intn(2)*r.Intn(4):]
		_, want := check.Check(text, faces)
		o, fault := Make(text, faces)
		if fault != want || fault.Code != api.OK && !reflect.DeepEqual(o, api.Object{}) {
			t.Fatalf("Make(%q, %v) = %v, %v; want the fault %v", text, faces, o, fault, want)
		}
		if fault.Code == api.OK {
			made(t, text, faces...)
		}
		codes[fault.Code]++
	}
	for _, code := range []api.Errno{api.OK, api.ErrForm, api.ErrKind, api.ErrName, api.ErrTwice, api.ErrRange, api.ErrLabel} {
		if codes[code] < 10 {
			t.Errorf("%d texts only have the fault %d", codes[code], code)
		}
	}
}

// I2: where there is nothing to do, there is nothing but the face.
func TestI2Nothing(t *testing.T) {
	o := made(t, "module m;")
	if !reflect.DeepEqual(o, api.Object{Face: api.Face{Module: "m"}}) {
		t.Errorf("of `module m;` there is %v", o)
	}
	o = made(t, "module m;pub low x;")
	if want := (api.Object{Face: faceOf(t, "module m;pub low x;"), Lows: []api.Place{{Name: "x"}}, Low: 1}); !reflect.DeepEqual(o, want) {
		t.Errorf("of the example there is %v; want %v", o, want)
	}
	if o := made(t, "module m;proc p()low{}"); len(o.Code) == 0 {
		t.Errorf("of a procedure that does nothing there is no order: it must come back")
	}
}

func namesOf(places []api.Place) (names []string) {
	for _, p := range places {
		names = append(names, p.Name)
	}
	return names
}

// hasAll tells whether all of these names are there.
func hasAll(places []api.Place, names ...string) bool {
	return !slices.ContainsFunc(names, func(name string) bool { return !slices.Contains(namesOf(places), name) })
}

// I2: Procs, Lows and Highs have what is pub, and nothing that is of another list.
func TestI2Lists(t *testing.T) {
	o := made(t, rich, richFaces(t)...)
	if !hasAll(o.Procs, "p", "r") || !hasAll(o.Lows, "x", "xs") || !hasAll(o.Highs, "h", "hs") {
		t.Errorf("%v, %v and %v have not all that is pub", o.Procs, o.Lows, o.Highs)
	}
	for _, name := range slices.Concat(namesOf(o.Lows), namesOf(o.Highs)) {
		if slices.Contains(namesOf(o.Procs), name) || slices.Contains(namesOf(o.Lows), name) && slices.Contains(namesOf(o.Highs), name) {
			t.Errorf("%s is of two lists: %v, %v, %v", name, o.Procs, o.Lows, o.Highs)
		}
	}
	// As many as there may be, each pub, procedures ahead of variables and among them.
	text := "module m;"
	for i := range api.MaxDecls {
		text += []string{"pub proc d#()low{}", "pub low d#;", "pub high d#[64];", "pub low d#[1];"}[i%4]
		text = strings.ReplaceAll(text, "#", strconv.Itoa(i))
	}
	o = made(t, text)
	if len(o.Procs) != 5 || len(o.Lows) != 10 || len(o.Highs) != 5 || o.Low != 10 || o.High != 5*64 {
		t.Errorf("of %s there is %v", text, o)
	}
}

// I2: the face is the module's.
func TestI2Face(t *testing.T) {
	for _, text := range []string{"module m;", rich, "module ab9;pub proc p(low x,high y)high gives high{return x;}proc q()low{}pub high k[7];low l;"} {
		if o := made(t, text, richFaces(t)...); !face.Same(o.Face, faceOf(t, text)) {
			t.Errorf("of %q the face is %v", text, o.Face)
		}
	}
}

// I2: Imports are those that are imported, in the order in which the text imports them.
func TestI2Imports(t *testing.T) {
	faces := richFaces(t)
	for text, want := range map[string]string{
		"module m;": "", "module m;import a;": "a", "module m;import b;import a;": "b a", "module m;import a;import b;": "a b",
		"module m;import c;import b;import a;": "c b a", rich: "a b",
	} {
		for _, given := range [][]api.Face{faces, {faces[2], faces[0], faces[1]}, {faces[1], faces[2], faces[0]}} {
			o := made(t, text, given...)
			var names []string
			for _, f := range o.Imports {
				names = append(names, f.Module)
				i := slices.IndexFunc(faces, func(other api.Face) bool { return other.Module == f.Module })
				if !face.Same(f, faces[i]) {
					t.Errorf("of %q %v is imported; want %v", text, f, faces[i])
				}
			}
			if strings.Join(names, " ") != want {
				t.Errorf("of %q %v are imported; want %s", text, names, want)
			}
		}
	}
	// As many as there may be, whose faces declare as much as they may.
	text, most := "module m;", []api.Face{}
	for i := range api.MaxModules - 1 {
		f := api.Face{Module: "a" + strconv.Itoa(i)}
		for k := range api.MaxDecls {
			f.Vars = append(f.Vars, api.Var{Name: "v" + strconv.Itoa(k), Pub: true, Label: k % 2, Size: k})
		}
		text += "import " + f.Module + ";"
		most = append(most, f)
	}
	if o := made(t, text, most...); !reflect.DeepEqual(o.Imports, most) {
		t.Errorf("of %q %v are imported", text, o.Imports)
	}
}

// I2: the words of all variables, whether they are pub or not.
func TestI2Words(t *testing.T) {
	for text, want := range map[string][2]int{
		"": {0, 0}, "low x;": {1, 0}, "pub high x;": {0, 1}, "low x[1];": {1, 0}, "high x[64];": {0, 64}, "pub low x;high y[3];low z;": {2, 3},
		"pub low x[64];low y[63];high z[2];pub high w;": {127, 3}, "proc p(low x,high y)low{low z=1;high w=2;}": {0, 0},
	} {
		if o := made(t, "module m;"+text); o.Low != want[0] || o.High != want[1] {
			t.Errorf("%q has %d low words, and %d high ones; want %v", text, o.Low, o.High, want)
		}
	}
}

func countNodes(n api.Node) int {
	count := 1
	for _, kid := range n.Kids {
		count += countNodes(kid)
	}
	return count
}

// five answers calls in one another, so many deep, each the last argument of
// the next one out.
func five(deep int) string {
	if deep == 0 {
		return "1"
	}
	return "f(v,v,v,v," + five(deep-1) + ")"
}

// tryBounds makes an object of a text without faults, and answers how many
// nodes that has.
func tryBounds(t *testing.T, text string) int {
	t.Helper()
	o := made(t, text)
	module, _ := syntax.Parse(text)
	count := countNodes(module)
	if len(o.Code) > 30*count || o.LowFrame > 300 || o.HighFrame > 300 {
		t.Errorf("%q has %d nodes, its object %d orders, and the frames %d and %d", text, count, len(o.Code), o.LowFrame, o.HighFrame)
	}
	return count
}

// I2: how great both frames may be.
func TestI2Frames(t *testing.T) {
	const begin = "module m;low v;proc f(low a,low b,low c,low d,low e)low gives low{return 1;}proc p()low{"
	locals := ""
	for i := range api.MaxLocals {
		locals += "low l" + strconv.Itoa(i) + "=" + strconv.Itoa(i) + ";"
	}
	// The module, the procedure, its block and an NSet are around the calls; the innermost one is around a number.
	const deep = api.MaxDepth - 5
	tryBounds(t, begin+locals+"v="+five(deep)+";}")
	for _, text := range []string{begin + locals + "low k=1;}", begin + "v=" + five(deep+1) + ";}"} {
		if o, fault := Make(text, nil); fault.Code != api.ErrSize || !reflect.DeepEqual(o, api.Object{}) {
			t.Errorf("Make(%q) = %v, %v", text, o, fault)
		}
	}
}

// I2: how many orders there may be: of each statement as many as a text can have.
func TestI2Orders(t *testing.T) {
	for _, stat := range []string{
		"do p();", "v=v;", "x[v]=v;", "x[p()]=p();", "v=p();", "v=-v;", "in low x[v];", "out high!x[v];", "while(v){}", "if(v){}else{}", "if(v){low l=p()*p();}",
		"do q(p(),p(),p(),p(),p());", "v=p()-(v-(p()-(v-p())));",
	} {
		count := 0
		for times := 0; ; times++ {
			text := "module m;low v;low x[64];proc q(low a,low b,low c,low d,low e)low{}proc p()low gives low{" + strings.Repeat(stat, times) + "return 1;}"
			if _, fault := Make(text, nil); fault.Code == api.ErrSize {
				break
			}
			count = tryBounds(t, text)
		}
		if count < api.MaxNodes-20 {
			t.Errorf("of %s a text has %d nodes only", stat, count)
		}
	}
}

// P3: faces are neither changed nor kept, and nothing behind them is read;
// what comes out is new.
func TestP3(t *testing.T) {
	all := append(richFaces(t), api.Face{Module: "?"})
	faces := all[:3]
	o := made(t, rich, faces...)
	again := made(t, rich, faces...)
	if !reflect.DeepEqual(o, again) || !reflect.DeepEqual(all[:3], richFaces(t)) || all[3].Module != "?" {
		t.Fatalf("%v and %v are made, with faces that are now %v", o, again, all)
	}
	// Each list of o is overwritten, up to its end in memory; again stays what it was, and so do the faces.
	for _, f := range append(slices.Clone(o.Imports), o.Face) {
		for _, p := range f.Procs {
			overwrite(p.Params, 99)
		}
		overwrite(f.Procs, api.Proc{Name: "over"})
		overwrite(f.Vars, api.Var{Name: "over"})
	}
	overwrite(o.Imports, api.Face{Module: "over"})
	overwrite(o.Code, api.Instr{Op: 99})
	overwrite(o.Relocs, api.Reloc{At: 99})
	for _, places := range [][]api.Place{o.Procs, o.Lows, o.Highs} {
		if len(places) == 0 || places[0].Name == "over" {
			t.Errorf("a list of places is empty or shared: %v", places)
		}
		overwrite(places, api.Place{Name: "over"})
	}
	if last := made(t, rich, faces...); !reflect.DeepEqual(last, again) || !reflect.DeepEqual(all[:3], richFaces(t)) {
		t.Errorf("memory is shared: %v, %v, %v", last, again, all)
	}
	for i := range faces {
		faces[i] = api.Face{}
	}
	if !reflect.DeepEqual(again.Imports, []api.Face{richFaces(t)[2], richFaces(t)[0]}) {
		t.Errorf("faces are kept: %v", again.Imports)
	}
}

func overwrite[T any](list []T, item T) {
	for i := range list[:cap(list)] {
		list[:cap(list)][i] = item
	}
}
