package object

import (
	"bytes"
	"encoding/binary"
	"math"
	"math/rand"
	"reflect"
	"slices"
	"strconv"
	"strings"
	"testing"

	"dryshod/api"
)

// full answers an object that has something of all that there is.
func full() api.Object {
	o := api.Object{
		Face: api.Face{
			Module: "m",
			Vars:   []api.Var{{Name: "x", Pub: true}, {Name: "hs", Pub: true, Label: api.High, Size: api.MaxArray}},
			Procs: []api.Proc{
				{Name: "p", Pub: true, Params: []int{api.Low, api.High, api.High, api.Low, api.Low}, Writes: api.High, Gives: true, Given: api.High},
				{Name: "q", Pub: true},
			},
		},
		Imports: []api.Face{
			{Module: "a", Vars: []api.Var{{Name: "x", Pub: true, Size: 1}}},
			{Module: "b", Procs: []api.Proc{{Name: "x", Pub: true, Params: []int{api.High}, Gives: true}}},
		},
		Code: []api.Instr{
			{Op: api.ISet, A: 1, N: math.MinInt64},
			{Op: api.IMove, A: 1, B: 2},
			{Op: api.IAdd, A: 1, B: 2, N: -1},
			{Op: api.ILoadLow, A: 1, B: 2, N: 3},
			{Op: api.ILoadHi, A: 1, B: 2, N: -3},
			{Op: api.IPutLow, A: 1, B: 2, N: 1 << 40},
			{Op: api.IPutHi, A: 7, B: 6, N: math.MaxInt64},
			{Op: api.IJump, N: -1},
			{Op: api.IZero, A: 3, N: 20},
			{Op: api.ICheck, A: 4, N: 64},
			{Op: api.ICall, N: 99999},
			{Op: api.IBack},
			{Op: api.IOutLow, A: 1},
			{Op: api.IOutHi, A: 2},
			{Op: api.IInLow, A: 3},
			{Op: api.IInHi, A: 4},
			{Op: api.IHalt},
		},
		Relocs: []api.Reloc{
			{At: 0, Kind: api.RelocLow, Module: "m", Name: "x"},
			{At: 4, Kind: api.RelocHigh, Module: "zz", Name: "nowhere"},
			{At: 8, Kind: api.RelocCode},
			{At: 10, Kind: api.RelocProc, Module: "b", Name: "x"},
		},
		Procs: []api.Place{{Name: "p", At: 16}, {Name: "q"}},
		Lows:  []api.Place{{Name: "x", At: 1}},
		Highs: []api.Place{{Name: "x", At: 2}, {Name: "y", At: 2}, {Name: "hs"}},
		Low:   2, High: 3, LowFrame: 4, HighFrame: 5,
	}
	for op := api.OpAdd; op <= api.OpSame; op++ {
		o.Code = append(o.Code, api.Instr{Op: api.IOp + op, A: 5, B: 6, C: 7})
	}
	return o
}

// try: May, Put and Get answer as is wanted of an object.
func try(t *testing.T, name string, o api.Object, may bool) {
	t.Helper()
	if got := May(o); got != may {
		t.Errorf("%s: May answers %v", name, got)
	}
	want := told(o)
	b, code := Put(o)
	got, back := Get(want)
	if !may {
		if b != nil || code != api.ErrForm || back != api.ErrForm || !reflect.DeepEqual(got, api.Object{}) {
			t.Errorf("%s: it is put as %v, %v, and got as %v, %v", name, b, code, got, back)
		}
		return
	}
	if code != api.OK || !bytes.Equal(b, want) {
		t.Errorf("%s: it is put as %v, %v; want %v", name, b, code, want)
	}
	if back != api.OK || !bytes.Equal(told(got), want) {
		t.Errorf("%s: it is got as %v, %v", name, got, back)
	}
}

// change is one at an object, and whether it has the form behind it.
type change struct {
	name string
	may  bool
	make func(o *api.Object)
}

// tryChanges: each change alone is made at an object that has the form.
func tryChanges(t *testing.T, changes []change) {
	t.Helper()
	try(t, "full", full(), true)
	for _, c := range changes {
		o := full()
		c.make(&o)
		try(t, c.name, o, c.may)
		if got := missing(o); (got == "") != c.may {
			t.Errorf("%s: told a second time, what is missing is %q", c.name, got)
		}
	}
}

func manyFaces(count int) []api.Face {
	var faces []api.Face
	for i := range count {
		faces = append(faces, api.Face{Module: "n" + strconv.Itoa(i)})
	}
	return faces
}

func TestJ1Faces(t *testing.T) {
	tryChanges(t, []change{
		{"nothing", false, func(o *api.Object) { *o = api.Object{} }},
		{"a name alone", true, func(o *api.Object) { *o = api.Object{Face: api.Face{Module: "m"}} }},
		{"no name", false, func(o *api.Object) { o.Face.Module = "" }},
		{"a word of the language", false, func(o *api.Object) { o.Face.Module = "module" }},
		{"a variable that is not pub", false, func(o *api.Object) { o.Face.Vars[0].Pub = false }},
		{"a label", false, func(o *api.Object) { o.Face.Vars[1].Label = 2 }},
		{"a size", false, func(o *api.Object) { o.Face.Vars[1].Size = 65 }},
		{"a parameter", false, func(o *api.Object) { o.Face.Procs[0].Params[4] = -1 }},
		{"given where nothing is", false, func(o *api.Object) { o.Face.Procs[0].Gives = false }},
		{"two alike", false, func(o *api.Object) { o.Face.Procs[1].Name = "x" }},
		{"no import", true, func(o *api.Object) { o.Imports = nil }},
		{"an empty list", true, func(o *api.Object) { o.Imports = []api.Face{} }},
		{"as many imports as may be", true, func(o *api.Object) { o.Imports = manyFaces(api.MaxModules - 1) }},
		{"one more", false, func(o *api.Object) { o.Imports = manyFaces(api.MaxModules) }},
		{"an import that may not be", false, func(o *api.Object) { o.Imports[0].Vars[0].Size = -1 }},
		{"the last import may not be", false, func(o *api.Object) { o.Imports[1].Procs[0].Writes = 2 }},
		{"an import of no name", false, func(o *api.Object) { o.Imports[1].Module = "1" }},
		{"an import of its own name", false, func(o *api.Object) { o.Imports[1].Module = "m" }},
		{"two imports of one name", false, func(o *api.Object) { o.Imports[1].Module = "a" }},
		{"another name", true, func(o *api.Object) { o.Face.Module = "abcdefghijklmnop" }},
		{"a longer one", false, func(o *api.Object) { o.Face.Module = "abcdefghijklmnopq" }},
	})
}

// I1: what N is of orders that a reloc may be of is not asked; all else is as
// H1 says.
func TestJ1Orders(t *testing.T) {
	changes := []change{
		{"no orders", true, func(o *api.Object) { o.Code, o.Relocs, o.Procs = nil, nil, nil }},
		{"orders of no kind", false, func(o *api.Object) { o.Code[3] = api.Instr{} }},
		{"the last one", false, func(o *api.Object) { o.Code[len(o.Code)-1].Op = api.IOp + api.OpSame + 1 }},
		{"no operation", false, func(o *api.Object) { o.Code[len(o.Code)-1].Op = api.IOp }},
		{"between orders and operations", false, func(o *api.Object) { o.Code[len(o.Code)-1].Op = 18 }},
		{"as many orders as may be", true, func(o *api.Object) {
			o.Code = slices.Repeat([]api.Instr{{Op: api.IBack}}, api.MaxCode)
		}},
		{"one more", false, func(o *api.Object) { o.Code = slices.Repeat([]api.Instr{{Op: api.IBack}}, api.MaxCode+1) }},
	}
	for at, order := range full().Code {
		for _, n := range numbers {
			isAny := order.Op <= api.ICall && order.Op != api.IMove && order.Op != api.ICheck
			may := isAny || n == 0 && order.Op != api.ICheck || order.Op == api.ICheck && n >= 1 && n <= api.MaxArray
			changes = append(changes, change{"N of an order", may, func(o *api.Object) { o.Code[at].N = n }})
		}
		for field, number := range []int{order.A, order.B, order.C} {
			for _, register := range []int{-1, 0, api.Regs - 1, api.Regs, math.MinInt64, math.MaxInt64, 1 << 32} {
				// In full each register that an order has is above 0.
				may := register == 0 || register == api.Regs-1 && number > 0
				changes = append(changes, change{"a register", may, func(o *api.Object) {
					*[]*int{&o.Code[at].A, &o.Code[at].B, &o.Code[at].C}[field] = register
				}})
			}
		}
	}
	tryChanges(t, changes)
}

func TestJ1Relocs(t *testing.T) {
	changes := []change{
		{"none", true, func(o *api.Object) { o.Relocs = nil }},
		{"one below the first order", false, func(o *api.Object) { o.Relocs[0].At = -1 }},
		{"one at the last order", true, func(o *api.Object) { o.Relocs[3].At = len(o.Code) - 1 }},
		{"one behind it", false, func(o *api.Object) { o.Relocs[3].At = len(o.Code) }},
		{"none is there without orders", false, func(o *api.Object) { o.Code, o.Procs, o.Relocs = nil, nil, o.Relocs[:1] }},
		{"two at one order", false, func(o *api.Object) { o.Relocs[1].At = 0 }},
		{"two side by side", true, func(o *api.Object) { o.Relocs[1].At = 1 }},
		{"not rising", false, func(o *api.Object) { o.Relocs[1], o.Relocs[3] = o.Relocs[3], o.Relocs[1] }},
		{"a name of code", false, func(o *api.Object) { o.Relocs[2].Name = "x" }},
		{"a module of code", false, func(o *api.Object) { o.Relocs[2].Module = "m" }},
		{"code with both", false, func(o *api.Object) { o.Relocs[0].Kind = api.RelocCode }},
		{"no name", false, func(o *api.Object) { o.Relocs[0].Name = "" }},
		{"no module", false, func(o *api.Object) { o.Relocs[1].Module = "" }},
		{"neither", false, func(o *api.Object) { o.Relocs[3].Module, o.Relocs[3].Name = "", "" }},
		{"a point", false, func(o *api.Object) { o.Relocs[0].Name = "m.x" }},
		{"a word of the language", false, func(o *api.Object) { o.Relocs[0].Module = "low" }},
		{"a reloc for each order", true, func(o *api.Object) {
			o.Code = slices.Repeat([]api.Instr{{Op: api.IJump}}, api.MaxCode)
			o.Relocs = nil
			for at := range o.Code {
				o.Relocs = append(o.Relocs, api.Reloc{At: at, Kind: api.RelocCode})
			}
		}},
		{"a reloc whatever the order is", true, func(o *api.Object) {
			o.Code = slices.Repeat([]api.Instr{{Op: api.IBack}}, 20)
		}},
	}
	for _, kind := range numbers {
		may := kind >= api.RelocProc && kind <= api.RelocHigh
		changes = append(changes, change{"kind " + strconv.Itoa(int(kind)), may, func(o *api.Object) { o.Relocs[0].Kind = int(kind) }})
		changes = append(changes, change{"code " + strconv.Itoa(int(kind)), kind == api.RelocCode, func(o *api.Object) { o.Relocs[2].Kind = int(kind) }})
	}
	tryChanges(t, changes)
}

func TestJ1Places(t *testing.T) {
	var changes []change
	lists := []string{"Procs", "Lows", "Highs"}
	for which, name := range lists {
		list := func(o *api.Object) *[]api.Place { return []*[]api.Place{&o.Procs, &o.Lows, &o.Highs}[which] }
		count := func(o *api.Object) int { return []int{len(o.Code), o.Low, o.High}[which] }
		changes = append(changes, []change{
			{name + " empty", true, func(o *api.Object) { *list(o) = nil }},
			{name + " below", false, func(o *api.Object) { (*list(o))[0].At = -1 }},
			{name + " at the first", true, func(o *api.Object) { (*list(o))[0].At = 0 }},
			{name + " at the last", true, func(o *api.Object) { (*list(o))[0].At = count(o) - 1 }},
			{name + " behind it", false, func(o *api.Object) { (*list(o))[0].At = count(o) }},
			{name + " without a name", false, func(o *api.Object) { (*list(o))[0].Name = "" }},
			{name + " with no name", false, func(o *api.Object) { (*list(o))[0].Name = "m.x" }},
			{name + " alike", false, func(o *api.Object) { *list(o) = append(*list(o), (*list(o))[0]) }},
			{name + " alike elsewhere", false, func(o *api.Object) { *list(o) = append(*list(o), api.Place{Name: (*list(o))[0].Name}) }},
			{name + " of a name that is not known", true, func(o *api.Object) { (*list(o))[0].Name = "zz" }},
			{name + " has many", true, func(o *api.Object) {
				for i := range 300 {
					*list(o) = append(*list(o), api.Place{Name: "n" + strconv.Itoa(i)})
				}
			}},
		}...)
	}
	tryChanges(t, append(changes, []change{
		{"no low words", false, func(o *api.Object) { o.Low = 0 }},
		{"neither words nor places", true, func(o *api.Object) { o.Low, o.Lows = 0, nil }},
		{"too few high words", false, func(o *api.Object) { o.High = 2 }},
		{"procedures without orders", false, func(o *api.Object) { o.Code, o.Relocs = nil, nil }},
	}...))
}

func TestJ1Words(t *testing.T) {
	var changes []change
	for _, number := range numbers {
		isCount := number >= 0 && number <= api.MaxWords
		n := int(number)
		name := "words " + strconv.Itoa(n)
		changes = append(changes,
			change{name, isCount, func(o *api.Object) { o.Low, o.Lows = n, nil }},
			change{name, isCount, func(o *api.Object) { o.High, o.Highs = n, nil }},
			change{name, isCount, func(o *api.Object) { o.LowFrame = n }},
			change{name, isCount, func(o *api.Object) { o.HighFrame = n }})
	}
	tryChanges(t, changes)
}

// anyChange answers full with a few things changed in it, whatever they are.
func anyChange(r *rand.Rand) api.Object {
	o := full()
	for range 1 + r.Intn(3) {
		all := leaves(reflect.ValueOf(&o).Elem())
		v := all[r.Intn(len(all))]
		switch v.Kind() {
		case reflect.Slice:
			if n := v.Len(); n > 0 && r.Intn(2) == 0 {
				v.Set(reflect.AppendSlice(v.Slice3(0, r.Intn(n), v.Cap()), v.Slice(n-1, n)))
			} else if n > 0 {
				v.Set(reflect.Append(v, v.Index(r.Intn(n))))
			}
		case reflect.String:
			v.SetString(texts[r.Intn(len(texts))])
		case reflect.Bool:
			v.SetBool(!v.Bool())
		default:
			v.SetInt(numbers[r.Intn(len(numbers))])
		}
	}
	return o
}

func TestJ1Any(t *testing.T) {
	r := rand.New(rand.NewSource(1))
	counts := map[bool]int{}
	for range 20000 {
		o := anyChange(r)
		may := missing(o) == ""
		counts[may]++
		try(t, "any", o, may)
		if t.Failed() {
			t.Fatal(o)
		}
	}
	if counts[true] < 2000 || counts[false] < 2000 {
		t.Errorf("too few: %v", counts)
	}
}

// J2: the example.
func TestJ2Example(t *testing.T) {
	want := append([]byte{0, 0, 0, 0, 0, 0, 0, 1, 109}, make([]byte, 16+80)...)
	o := api.Object{Face: api.Face{Module: "m"}}
	if b, code := Put(o); code != api.OK || !bytes.Equal(b, want) || len(b) != 105 {
		t.Errorf("%v, %v", b, code)
	}
	if got, code := Get(want); code != api.OK || !bytes.Equal(told(got), want) || got.Face.Module != "m" {
		t.Errorf("%v, %v", got, code)
	}
}

// words answers the bytes of numbers and texts.
func words(all ...any) []byte {
	var b []byte
	for _, word := range all {
		if text, isText := word.(string); isText {
			b = append(binary.BigEndian.AppendUint64(b, uint64(len(text))), text...)
		} else {
			b = binary.BigEndian.AppendUint64(b, uint64(int64(word.(int))))
		}
	}
	return b
}

// J2: which field stands where, and how each is written.
func TestJ2Fields(t *testing.T) {
	o := api.Object{
		Face: api.Face{
			Module: "mm",
			Vars:   []api.Var{{Name: "v", Pub: true, Label: api.High, Size: 7}},
			Procs:  []api.Proc{{Name: "p", Pub: true, Params: []int{api.High, api.Low}, Writes: api.High, Gives: true, Given: api.High}, {Name: "q", Pub: true}},
		},
		Imports:  []api.Face{{Module: "a"}, {Module: "b", Vars: []api.Var{{Name: "w", Pub: true}}}},
		Code:     []api.Instr{{Op: api.IOp + api.OpSub, A: 1, B: 2, C: 3}, {Op: api.ISet, A: 4, N: -2}},
		Relocs:   []api.Reloc{{At: 0, Kind: api.RelocCode}, {At: 1, Kind: api.RelocHigh, Module: "b", Name: "w"}},
		Procs:    []api.Place{{Name: "p", At: 1}},
		Lows:     []api.Place{{Name: "l", At: 4}, {Name: "k"}},
		Highs:    []api.Place{{Name: "h", At: 5}},
		Low:      300,
		High:     20000,
		LowFrame: 8, HighFrame: 9,
	}
	want := words(
		"mm", 1, "v", 1, 1, 7, 2, "p", 1, 2, 1, 0, 1, 1, 1, "q", 1, 0, 0, 0, 0,
		2, "a", 0, 0, "b", 1, "w", 1, 0, 0, 0,
		2, 22, 1, 2, 3, 0, 1, 4, 0, 0, -2,
		2, 0, 1, "", "", 1, 4, "b", "w",
		1, "p", 1, 2, "l", 4, "k", 0, 1, "h", 5,
		300, 20000, 8, 9)
	if b, code := Put(o); code != api.OK || !bytes.Equal(b, want) {
		t.Errorf("%v, %v; want %v", b, code, want)
	}
	minus := []byte{255, 255, 255, 255, 255, 255, 255, 254}
	thousands := []byte{0, 0, 0, 0, 0, 0, 78, 32}
	if !bytes.Contains(want, minus) || !bytes.Contains(want, thousands) {
		t.Error("numbers are not written with the highest byte first")
	}
	o.Imports[0].Vars = []api.Var{}
	o.Imports[0].Procs, o.Imports[1].Procs = []api.Proc{}, []api.Proc{}
	o.Face.Procs[1].Params = []int{}
	if b, code := Put(o); code != api.OK || !bytes.Equal(b, want) {
		t.Errorf("empty lists are told otherwise than nil: %v, %v", b, code)
	}
}

// J3: numbers of 64 bits are the same when they come back.
func TestJ3Numbers(t *testing.T) {
	for _, n := range numbers {
		o := api.Object{Face: api.Face{Module: "m"}, Code: []api.Instr{{Op: api.ISet, N: n}}}
		b, _ := Put(o)
		if got, code := Get(b); code != api.OK || !reflect.DeepEqual(got, o) {
			t.Errorf("%d comes back as %v, %v", n, got, code)
		}
	}
}

// tryBytes: Get answers the object that has these bytes, if there is one.
func tryBytes(t *testing.T, b []byte) bool {
	t.Helper()
	want, isOne := heard(b)
	o, code := Get(b)
	if (code == api.OK) != isOne || !isOne && code != api.ErrForm || !bytes.Equal(told(o), told(want)) {
		t.Fatalf("Get(%v) answers %v, %v; want %v, %v", b, o, code, want, isOne)
	}
	if again, code := Put(o); isOne && (code != api.OK || !bytes.Equal(again, b)) {
		t.Fatalf("what Get(%v) answers is put as %v, %v", b, again, code)
	}
	return isOne
}

// J3: bytes that end too soon, or too late, are those of no object.
func TestJ3Ends(t *testing.T) {
	b, _ := Put(full())
	for end := range b {
		// What is behind the end would make it an object.
		if o, code := Get(b[:end]); code != api.ErrForm || !reflect.DeepEqual(o, api.Object{}) {
			t.Errorf("the first %d bytes are %v, %v", end, o, code)
		}
	}
	for _, more := range [][]byte{{0}, {1}, make([]byte, 8), b} {
		if o, code := Get(append(slices.Clone(b), more...)); code != api.ErrForm || !reflect.DeepEqual(o, api.Object{}) {
			t.Errorf("with %v behind them they are %v, %v", more, o, code)
		}
	}
	for _, none := range [][]byte{nil, {}} {
		if _, code := Get(none); code != api.ErrForm {
			t.Errorf("no bytes are told %v", code)
		}
	}
}

// J3: sizes and all other numbers may be any, wherever they stand.
func TestJ3AnyNumber(t *testing.T) {
	b, _ := Put(full())
	count := 0
	for at := range len(b) - 7 {
		for _, n := range append([]int64{math.MaxInt64 - 7, 1 << 40, 1<<62 + 1, int64(len(b) - at - 8), int64(len(b) - at - 7)}, numbers...) {
			changed := slices.Clone(b)
			binary.BigEndian.PutUint64(changed[at:], uint64(n))
			if tryBytes(t, changed) {
				count++
			}
		}
	}
	if count < 1000 {
		t.Errorf("%d of them are objects only", count)
	}
}

// J3: whatever bytes are changed, left out or put in.
func TestJ3AnyBytes(t *testing.T) {
	r := rand.New(rand.NewSource(1))
	b, _ := Put(full())
	count := 0
	for range 20000 {
		changed := slices.Clone(b)
		for range 1 + r.Intn(2) {
			at := r.Intn(len(changed))
			switch r.Intn(4) {
			case 0:
				changed[at] = byte(r.Intn(256))
			case 1:
				changed[at] += byte(r.Intn(3)) - 1
			case 2:
				changed = slices.Delete(changed, at, min(at+8, len(changed)))
			case 3:
				changed = slices.Insert(changed, at, words(r.Intn(3))...)
			}
		}
		if tryBytes(t, changed) {
			count++
		}
	}
	if count < 1000 {
		t.Errorf("%d of them are objects only", count)
	}
}

// J3: a bool is 0 or 1, a size is not below 0, whatever is behind them.
func TestJ3Wrong(t *testing.T) {
	rest := make([]byte, 80)
	bools := func(pub, gives int) []byte {
		return append(words("m", 1, "v", pub, 0, 0, 1, "p", 1, 0, 0, gives, 0), rest...)
	}
	if !tryBytes(t, bools(1, 0)) || !tryBytes(t, bools(1, 1)) {
		t.Error("bools of 0 and 1 are refused")
	}
	for _, n := range []int{2, 3, -1, 256, 1 << 8, 1 << 32, 1<<32 + 1, 1 << 63 >> 1, math.MinInt64, math.MinInt64 + 1} {
		if tryBytes(t, bools(n, 0)) || tryBytes(t, bools(1, n)) {
			t.Errorf("a bool of %d is taken", n)
		}
	}
	for _, size := range []int{-1, -8, math.MinInt64, math.MaxInt64, math.MaxInt64 / 8, 1 << 40} {
		for _, b := range [][]byte{
			append(words(size), rest...),
			append(words("m", size, 0), rest...),
			append(words("m", 0, size), rest...),
			append(words("m", 0, 0, size), rest[8:]...),
			append(words("m", 0, 1, "p", 1, size, 0, 0, 0), rest...),
			append(words("m", 0, 0, 0, size), rest[16:]...),
			append(words("m", 0, 0, 0, 0, 0, size), rest[32:]...),
		} {
			if tryBytes(t, b) {
				t.Errorf("a size of %d is taken", size)
			}
		}
	}
}

// J3: what is too much for an object is none, though it is all there.
func TestJ3Much(t *testing.T) {
	for _, o := range []api.Object{
		{Face: api.Face{Module: strings.Repeat("m", 1<<20)}},
		{Face: api.Face{Module: "m"}, Imports: make([]api.Face, 100000)},
		{Face: api.Face{Module: "m"}, Code: make([]api.Instr, 100000)},
		{Face: api.Face{Module: "m"}, Relocs: make([]api.Reloc, 100000)},
		{Face: api.Face{Module: "m"}, Highs: make([]api.Place, 100000), High: 1},
		{Face: api.Face{Module: "m", Procs: []api.Proc{{Name: "p", Pub: true, Params: make([]int, 100000)}}}},
	} {
		try(t, "much", o, false)
	}
}

// copyOf answers an object that has no memory with another one.
func copyOf(t *testing.T, o api.Object) api.Object {
	t.Helper()
	again, isOne := heard(told(o))
	if !isOne {
		t.Fatal("it has not the form")
	}
	return again
}

// lists answers each list of a value.
func lists(o *api.Object) []reflect.Value {
	return slices.DeleteFunc(leaves(reflect.ValueOf(o).Elem()), func(v reflect.Value) bool { return v.Kind() != reflect.Slice })
}

// P3: what is handed in is neither changed nor kept, nothing behind it is read
// or written, and each list that comes out is new.
func TestP3(t *testing.T) {
	o := full()
	// Inner lists come first, since the items of outer ones get a new place.
	for _, list := range slices.Backward(lists(&o)) {
		// Behind each list stands its first item again, if there is one.
		if list.Len() > 0 {
			list.Set(reflect.Append(list, list.Index(0)).Slice(0, list.Len()))
		}
	}
	behind := told(withAll(o))
	b, code := Put(o)
	want := told(full())
	if code != api.OK || !bytes.Equal(b, want) || !bytes.Equal(told(o), want) || !bytes.Equal(told(withAll(o)), behind) {
		t.Fatalf("what is behind lists is read or written: %v, %v", b, code)
	}
	kept := append(slices.Clone(b), 1, 2, 3)
	got, _ := Get(kept[:len(b)])
	if !bytes.Equal(kept, append(slices.Clone(b), 1, 2, 3)) {
		t.Error("bytes are changed")
	}
	for i := range kept {
		kept[i] = 255
	}
	if !bytes.Equal(told(got), want) {
		t.Errorf("bytes are kept: %v", got)
	}
	for i := range b[:cap(b)] {
		b[:cap(b)][i] = 255
	}
	if again, _ := Put(o); !bytes.Equal(again, want) {
		t.Error("what was put is kept")
	}
	for which := range lists(&got) {
		got, _ := Get(want)
		spoilt := copyOf(t, got)
		clearAll(lists(&got)[which])
		clearAll(lists(&spoilt)[which])
		if !bytes.Equal(told(got), told(spoilt)) {
			t.Errorf("the list %d has memory with others", which)
		}
	}
}

// withAll answers an object with all that is behind its lists in memory, too.
func withAll(o api.Object) api.Object {
	all := reflect.ValueOf(&o).Elem()
	for i := range all.NumField() {
		if v := all.Field(i); v.Kind() == reflect.Slice {
			v.Set(v.Slice(0, v.Cap()))
		}
	}
	return o
}

// clearAll makes a list's items nothing, up to its end in memory.
func clearAll(list reflect.Value) {
	all := list.Slice(0, list.Cap())
	for i := range all.Len() {
		all.Index(i).SetZero()
	}
}
