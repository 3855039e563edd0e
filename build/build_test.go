package build

import (
	"math/rand"
	"reflect"
	"slices"
	"strconv"
	"strings"
	"testing"

	"dryshod/api"
	"dryshod/compile"
	"dryshod/face"
	"dryshod/link"
	"dryshod/machine"
	"dryshod/order"
)

const (
	mainText = "module main;import b;import a;pub low x;pub proc main()low{out low a.add(b.two());out low a.x+x;}"
	textA    = "module a;high own[3];low before;pub low x;pub proc add(low n)low gives low{x=x+n+1;return x;}"
	textB    = "module b;import a;pub proc two()low gives low{return a.add(0)*2;}proc hidden()high{}"
)

// image answers that of a program without trouble.
func image(t *testing.T, texts ...string) api.Image {
	t.Helper()
	m, trouble := Build(texts)
	if trouble != (api.Trouble{}) {
		t.Fatalf("Build(%.300q) tells %v", texts, trouble)
	}
	if !machine.May(m) {
		t.Fatalf("Build(%.300q) = %v, which may not be", texts, m)
	}
	return m
}

// tryTrouble asks for that trouble, which is Order's.
func tryTrouble(t *testing.T, want api.Trouble, texts ...string) {
	t.Helper()
	m, trouble := Build(texts)
	if trouble != want || len(m.Code) > 0 || m.Low != 0 || m.High != 0 {
		t.Errorf("Build(%.300q) = %v, %v; want the trouble %v", texts, m, trouble, want)
	}
	if _, ordered := order.Order(texts); ordered != trouble {
		t.Errorf("Build(%.300q) tells %v; Order tells %v", texts, trouble, ordered)
	}
}

// tryShown runs an image, and asks for what comes out low; it is done.
func tryShown(t *testing.T, m api.Image, want ...int64) {
	t.Helper()
	shown, _, code := machine.Run(m, nil, nil, api.MaxFuel)
	if code != api.OK || shown.End != api.EndDone || !slices.Equal(shown.Low, want) || len(shown.High) > 0 {
		t.Errorf("%v shows %v, %v; want %v", m, shown, code, want)
	}
}

// L1: the example.
func TestL1Example(t *testing.T) {
	tryShown(t, image(t, "module main;pub proc main()low{out low 1;}"), 1)
}

// L1: Order's trouble, of each of its kinds.
func TestL1Trouble(t *testing.T) {
	tryTrouble(t, api.Trouble{Code: api.ErrSize})
	tryTrouble(t, api.Trouble{Code: api.ErrSize}, []string{}...)
	tryTrouble(t, api.Trouble{Code: api.ErrSize}, slices.Repeat([]string{"?"}, api.MaxModules+1)...)
	tryTrouble(t, api.Trouble{Code: api.ErrForm}, "")
	tryTrouble(t, api.Trouble{Module: 2, Code: api.ErrForm, At: 8}, mainText, textA, "module b")
	tryTrouble(t, api.Trouble{Module: 1, Code: api.ErrTwice, At: 2}, mainText, "module a;low x;low x;", textB)
	tryTrouble(t, api.Trouble{Module: 3, Code: api.ErrSize}, textA, textB, mainText, strings.Repeat(" ", api.MaxText+1))
	tryTrouble(t, api.Trouble{Module: 3, Code: api.ErrTwice}, mainText, textA, textB, textA)
	tryTrouble(t, api.Trouble{Module: 0, Code: api.ErrName, At: 1}, mainText, textA)
	tryTrouble(t, api.Trouble{Module: 1, Code: api.ErrName, At: 2}, textB+"proc more()low{}", "module main;import b;import c;", textA)
	tryTrouble(t, api.Trouble{Module: 1, Code: api.ErrKind}, "module main;pub proc main()low{}", "module b;import a;", "module a;import b;")
	tryTrouble(t, api.Trouble{Module: 2, Code: api.ErrLabel, At: 5}, mainText, textA, "module b;import a;high h;proc p()low{out low h;}")
	tryTrouble(t, api.Trouble{Module: 0, Code: api.ErrName, At: 7}, mainText, "module a;", "module b;pub proc two()low gives low{return 1;}")
	tryTrouble(t, api.Trouble{Code: api.ErrName}, textA, textB)
	tryTrouble(t, api.Trouble{Code: api.ErrName}, textA, "module main;proc main()low{}")
	tryTrouble(t, api.Trouble{Code: api.ErrName}, textA, textB, "module main;pub proc main(low x)low{}")
	tryTrouble(t, api.Trouble{Code: api.ErrName}, "module main;pub proc main()high{}")
}

// objects answers those of texts, each made with the faces of these imports.
func objects(t *testing.T, texts []string, imports map[string][]string) []api.Object {
	t.Helper()
	var l []api.Object
	for _, text := range texts {
		var faces []api.Face
		for _, other := range imports[text] {
			f, _, _ := face.Of(other)
			faces = append(faces, f)
		}
		o, fault := compile.Make(text, faces)
		if fault != (api.Fault{}) {
			t.Fatalf("Make(%q) tells %v", text, fault)
		}
		l = append(l, o)
	}
	return l
}

// L1: the image is what Link answers of the objects, which stand as the texts do.
func TestL1Link(t *testing.T) {
	imports := map[string][]string{mainText: {textB, textA}, textB: {textA}}
	var seen []api.Image
	for _, texts := range [][]string{
		{mainText, textA, textB}, {mainText, textB, textA}, {textA, mainText, textB}, {textB, mainText, textA}, {textA, textB, mainText}, {textB, textA, mainText},
		{textB, "module c;", textA, "module d;low x;", mainText, "module e;high x[64];"},
	} {
		got := image(t, texts...)
		want, trouble := link.Link(objects(t, texts, imports))
		if trouble != (api.Trouble{}) || !reflect.DeepEqual(got, want) {
			t.Errorf("Build(%q) = %v; want %v, %v", texts, got, want, trouble)
		}
		tryShown(t, got, 4, 4)
		if slices.ContainsFunc(seen, func(other api.Image) bool { return reflect.DeepEqual(other, got) }) {
			t.Errorf("which one of %q stands first is not to be seen", texts)
		}
		seen = append(seen, got)
	}
}

// L1: orders ahead of all others, words of all variables, and frames behind them (K2).
func TestL1Words(t *testing.T) {
	m := image(t, "module a;low x[5];pub high y;", "module main;import a;pub proc main()low{}high k[7];low j;")
	want := []api.Instr{{Op: api.ISet, A: 6, N: 6}, {Op: api.ISet, A: 7, N: 8}, {Op: api.ICall, N: 4}, {Op: api.IHalt}}
	if !slices.Equal(m.Code[:4], want) || m.Low < 6 || m.High < 8 || (m.Low-6)%(api.MaxCalls+1) != 0 || (m.High-8)%(api.MaxCalls+1) != 0 {
		t.Errorf("the image is %v", m)
	}
	tryShown(t, m)
}

// filled answers a module with as many decls, words, locals and nodes as it may
// have: statements are added to a procedure as long as the text has no fault.
func filled(t *testing.T, begin string, imports []string, stat string) string {
	t.Helper()
	var faces []api.Face
	for _, other := range imports {
		f, _, _ := face.Of(other)
		faces = append(faces, f)
	}
	text := begin + "proc q(high a,high b,high c,high d,high e)low gives high{return a;}proc p()low gives high{return 1;}"
	for i := range api.MaxDecls - 4 {
		text += []string{"low", "high"}[i%2] + " v" + strconv.Itoa(i) + "[64];"
	}
	text += "pub proc f()low{"
	for i := range api.MaxLocals {
		text += "high l" + strconv.Itoa(i) + "=1;"
	}
	for {
		more := text + stat
		if _, fault := compile.Make(more+"}", faces); fault.Code == api.ErrSize {
			return text + "}"
		} else if fault.Code != api.OK {
			t.Fatalf("%s has %v", more, fault)
		}
		text = more
	}
}

// L1: whatever modules there are, they find room in one image.
func TestL1Greatest(t *testing.T) {
	for _, stat := range []string{
		"do q(p(),p(),p(),p(),p());", "v1[p()]=p();", "l1=p();", "in high v1[l1];", "l1=p()-(l2-(p()-(l3-p())));", "out high!v1[p()];",
		"l0=q(1,1,1,1,q(1,1,1,1,q(1,1,1,1,q(1,1,1,1,q(1,1,1,1,q(1,1,1,1,q(1,1,1,1,q(1,1,1,1,q(1,1,1,1,q(1,1,1,1,p()))))))))));",
	} {
		var texts []string
		begin := "module main;"
		for i := range api.MaxModules - 1 {
			name := "m" + strconv.Itoa(i)
			texts = append(texts, filled(t, "module "+name+";", nil, stat))
			begin += "import " + name + ";"
		}
		texts = append(texts, filled(t, begin+"pub proc main()low{do f();}", texts, stat))
		image(t, texts...)
	}
}

// P1: texts that mean nothing, or nearly something: an image, or Order's trouble.
func TestP1(t *testing.T) {
	r := rand.New(rand.NewSource(12))
	good := 0
	for range 5000 {
		var texts []string
		for _, text := range []string{mainText, textA, textB} {
			b := []byte(text)
			for range r.Intn(2) * r.Intn(2) {
				b[r.Intn(len(b))] = byte(r.Intn(128))
			}
			texts = append(texts, string(b[:len(b)-r.Intn(10)/9*r.Intn(len(b))]))
		}
		r.Shuffle(3, func(i, j int) { texts[i], texts[j] = texts[j], texts[i] })
		if _, trouble := order.Order(texts); trouble != (api.Trouble{}) {
			tryTrouble(t, trouble, texts...)
			continue
		}
		good++
		image(t, texts...)
	}
	if good < 500 || good > 4500 {
		t.Errorf("%d of 5000 programs are built", good)
	}
}

// P3: texts are not changed, what is behind them is not read, and answers share nothing.
func TestP3(t *testing.T) {
	all := []string{mainText, textA, textB, "?"}
	texts := all[:3]
	first, second := image(t, texts...), image(t, texts...)
	if !slices.Equal(all, []string{mainText, textA, textB, "?"}) || !reflect.DeepEqual(first, second) {
		t.Fatalf("of %q come %v and %v", all, first, second)
	}
	for i := range first.Code[:cap(first.Code)] {
		first.Code[:cap(first.Code)][i] = api.Instr{Op: 99}
	}
	texts[1] = "?"
	tryShown(t, second, 4, 4)
	if again := image(t, mainText, textA, textB); !reflect.DeepEqual(again, second) {
		t.Errorf("%v is built, and later %v", second, again)
	}
}
