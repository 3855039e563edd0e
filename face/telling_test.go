package face

import (
	"math/rand"
	"slices"
	"strconv"
	"testing"

	"dryshod/api"
)

// part is a piece of a module's text, with what the chapter asks of it: the
// second telling works on parts alone, and knows no nodes.
type part struct {
	text   string
	kind   int
	name   string
	nodes  int
	size   int // of a variable, -1 without a number
	params []string
	v      api.Var
	p      api.Proc
}

func pick(r *rand.Rand, l ...string) string { return l[r.Intn(len(l))] }

func label(r *rand.Rand) (string, int) {
	at := r.Intn(2)
	return []string{"low ", "high "}[at], at
}

func pub(r *rand.Rand) (string, bool) {
	if r.Intn(2) == 0 {
		return "", false
	}
	return "pub ", true
}

// anyName answers one of so many names, so that two are alike now and then.
func anyName(r *rand.Rand, many int) string { return "n" + strconv.Itoa(r.Intn(many)) }

func anyImport(r *rand.Rand) part {
	name := anyName(r, 20)
	return part{text: "import " + name + ";", kind: api.NImport, name: name, nodes: 1}
}

func anyVar(r *rand.Rand, many int) part {
	ahead, isPub := pub(r)
	word, l := label(r)
	n := part{kind: api.NVar, name: anyName(r, many), nodes: 1, size: -1}
	n.v = api.Var{Name: n.name, Pub: isPub, Label: l}
	n.text = ahead + word + n.name
	if r.Intn(2) == 0 {
		n.size = 1 + r.Intn(api.MaxArray)
		if r.Intn(12) == 0 {
			n.size = []int{0, 65, 1000}[r.Intn(3)]
		}
		n.v.Size = n.size
		n.text += "[" + strconv.Itoa(n.size) + "]"
		n.nodes++
	}
	n.text += ";"
	return n
}

func anyProc(r *rand.Rand, many int) part {
	ahead, isPub := pub(r)
	n := part{kind: api.NProc, name: anyName(r, many), nodes: 2}
	n.p = api.Proc{Name: n.name, Pub: isPub}
	n.text = ahead + "proc " + n.name + "("
	for i := range r.Intn(api.MaxParams + 1 + r.Intn(8)/7) {
		word, l := label(r)
		name := anyName(r, 40)
		if i > 0 {
			n.text += ","
		}
		n.text += word + name
		n.params = append(n.params, name)
		n.p.Params = append(n.p.Params, l)
		n.nodes++
	}
	word, l := label(r)
	n.p.Writes = l
	n.text += ")" + word
	if r.Intn(2) == 0 {
		word, l := label(r)
		n.p.Gives, n.p.Given = true, l
		n.text += "gives " + word
	}
	n.text += "{"
	for range r.Intn(3) {
		n.text += pick(r, "out low 1;", "in high k;")
		n.nodes += 2
	}
	n.text += "}"
	return n
}

func anyParts(r *rand.Rand) []part {
	var parts []part
	for range r.Intn(api.MaxModules + 1) {
		parts = append(parts, anyImport(r))
	}
	many := []int{10, 300, 3000}[r.Intn(3)]
	for range r.Intn(api.MaxDecls + 3) {
		if r.Intn(2) == 0 {
			parts = append(parts, anyVar(r, many))
		} else {
			parts = append(parts, anyProc(r, many))
		}
	}
	return parts
}

// tellPart answers the first fault of a part whose first node has the number
// at; ahead are the parts ahead of it.
func tellPart(n part, ahead []part, at int) api.Fault {
	alike, many := 0, 0
	for _, other := range ahead {
		if (other.kind == api.NImport) == (n.kind == api.NImport) {
			many++
			if other.name == n.name {
				alike++
			}
		}
	}
	isImport := n.kind == api.NImport
	switch {
	case alike > 0 || isImport && n.name == "n0":
		return api.Fault{Code: api.ErrTwice, At: at}
	case isImport && many >= 5 || !isImport && many >= 20:
		return api.Fault{Code: api.ErrSize, At: at}
	case n.kind == api.NVar && (n.size == 0 || n.size > 64):
		return api.Fault{Code: api.ErrRange, At: at}
	case len(n.params) > 5:
		return api.Fault{Code: api.ErrSize, At: at}
	}
	for i, name := range n.params {
		if slices.Contains(n.params[:i], name) {
			return api.Fault{Code: api.ErrTwice, At: at + 1 + i}
		}
	}
	return api.Fault{}
}

// tell answers what Of is to answer of the parts of a module n0.
func tell(parts []part) (api.Face, []string, api.Fault) {
	f := api.Face{Module: "n0"}
	var imports []string
	at := 1
	for i, n := range parts {
		if fault := tellPart(n, parts[:i], at); fault.Code != api.OK {
			return api.Face{}, nil, fault
		}
		at += n.nodes
		switch {
		case n.kind == api.NImport:
			imports = append(imports, n.name)
		case n.v.Pub:
			f.Vars = append(f.Vars, n.v)
		case n.p.Pub:
			f.Procs = append(f.Procs, n.p)
		}
	}
	return f, imports, api.Fault{}
}

// D1 to D3: many modules, held against the second telling.
func TestTelling(t *testing.T) {
	r := rand.New(rand.NewSource(4))
	seen := map[api.Errno]int{}
	for range 20000 {
		parts := anyParts(r)
		text := "module n0;"
		for _, n := range parts {
			text += n.text
		}
		f, imports, fault := Of(text)
		wantFace, wantImports, want := tell(parts)
		if fault != want || !Same(f, wantFace) || !slices.Equal(imports, wantImports) {
			t.Fatalf("Of(%q) = %v, %v, %v; want %v, %v, %v", text, f, imports, fault, wantFace, wantImports, want)
		}
		if May(f) != (fault.Code == api.OK) {
			t.Fatalf("May of the face of %q is wrong: %v", text, f)
		}
		seen[fault.Code]++
	}
	for _, code := range []api.Errno{api.OK, api.ErrSize, api.ErrTwice, api.ErrRange} {
		if seen[code] < 100 {
			t.Errorf("the code %d was met %d times only", code, seen[code])
		}
	}
}
