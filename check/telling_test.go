package check

import (
	"math/rand"
	"strings"
	"testing"

	"dryshod/api"
	"dryshod/face"
	"dryshod/syntax"
)

// spot is a node with where it stands. The second telling asks of each node
// alone, by the nodes around it, what the chapter asks; it keeps nothing as it
// goes.
type spot struct {
	api.Node
	up   int // the number of the node that it is a kid of
	nth  int // of its kids
	kids []int
}

type telling struct {
	spots []spot
	ends  []int // the nodes by where they end
	faces []api.Face
}

func tellingOf(module api.Node, faces []api.Face) *telling {
	tell := &telling{faces: faces}
	var visit func(n api.Node, up, nth int) int
	visit = func(n api.Node, up, nth int) int {
		at := len(tell.spots)
		tell.spots = append(tell.spots, spot{Node: n, up: up, nth: nth})
		var kids []int
		for i, kid := range n.Kids {
			kids = append(kids, visit(kid, at, i))
		}
		tell.spots[at].kids = kids
		tell.ends = append(tell.ends, at)
		return at
	}
	visit(module, -1, 0)
	return tell
}

// fault answers the first one.
func (tell *telling) fault() api.Fault {
	for _, at := range tell.ends {
		if code := tell.code(at); code != api.OK {
			return api.Fault{Code: code, At: at}
		}
	}
	return api.Fault{}
}

// locals answers those that are there at a node, the innermost ones first, and
// how many of them are of the block that it is in.
func (tell *telling) locals(at int) (all []api.Node, same int) {
	for inner := true; at > 0; at = tell.spots[at].up {
		s := tell.spots[at]
		up := tell.spots[s.up]
		if up.Kind != api.NBlock && up.Kind != api.NProc {
			continue
		}
		for nth := s.nth - 1; nth >= 0; nth-- {
			if n := up.Kids[nth]; n.Kind == api.NLocal || n.Kind == api.NParam {
				all = append(all, n)
			}
		}
		if inner {
			same = len(all)
		}
		// A procedure's parameters are of the block that stands in it.
		inner = inner && up.Kind == api.NBlock && tell.spots[up.up].Kind == api.NProc
	}
	return all, same
}

func (tell *telling) procOf(at int) api.Node {
	for tell.spots[at].Kind != api.NProc {
		at = tell.spots[at].up
	}
	return tell.spots[at].Node
}

func (tell *telling) context(at int) int {
	s := tell.spots[at]
	up := tell.spots[s.up]
	switch {
	case up.Kind == api.NProc:
		return int(up.Num % 2)
	case (up.Kind == api.NIf || up.Kind == api.NWhile) && s.nth > 0:
		return max(tell.context(s.up), tell.label(up.kids[0]))
	}
	return tell.context(s.up)
}

// faceOf answers that of the module ahead of a name's point, if it is imported.
func (tell *telling) faceOf(module string) api.Face {
	for _, kid := range tell.spots[0].Kids {
		if kid.Kind != api.NImport || kid.Text != module {
			continue
		}
		for _, f := range tell.faces {
			if f.Module == module {
				return f
			}
		}
	}
	return api.Face{}
}

// variable answers the label of a place's variable, whether it is an array,
// and whether there is one.
func (tell *telling) variable(at int) (label int, isArray, found bool) {
	text := tell.spots[at].Text
	if module, name, isLong := strings.Cut(text, "."); isLong {
		for _, v := range tell.faceOf(module).Vars {
			if v.Name == name {
				return v.Label, v.Size > 0, true
			}
		}
		return 0, false, false
	}
	all, _ := tell.locals(at)
	for _, n := range all {
		if n.Text == text {
			return int(n.Num), false, true
		}
	}
	for _, n := range tell.spots[0].Kids {
		if n.Kind == api.NVar && n.Text == text {
			return int(n.Num % 2), len(n.Kids) > 0, true
		}
	}
	return 0, false, false
}

func (tell *telling) procedure(at int) (p api.Proc, found bool) {
	module, name, isLong := strings.Cut(tell.spots[at].Text, ".")
	if isLong {
		for _, p := range tell.faceOf(module).Procs {
			if p.Name == name {
				return p, true
			}
		}
		return p, false
	}
	for _, n := range tell.spots[0].Kids {
		if n.Kind == api.NProc && n.Text == module {
			p = api.Proc{Writes: int(n.Num % 2), Gives: n.Num >= 4, Given: int(n.Num / 8)}
			for _, param := range n.Kids[:len(n.Kids)-1] {
				p.Params = append(p.Params, int(param.Num))
			}
			return p, true
		}
	}
	return p, false
}

func (tell *telling) label(at int) int {
	s := tell.spots[at]
	label := 0
	switch s.Kind {
	case api.NCall:
		p, _ := tell.procedure(at)
		return p.Given
	case api.NName, api.NItem:
		label, _, _ = tell.variable(at)
	}
	for _, kid := range s.kids {
		label = max(label, tell.label(kid))
	}
	return label
}

// target answers the label of the variable that an NSet or NIn changes, and
// that of what says which word of it.
func (tell *telling) target(at int) (label, index int) {
	place := tell.spots[at].kids[0]
	label, _, _ = tell.variable(place)
	for _, kid := range tell.spots[place].kids {
		index = tell.label(kid)
	}
	return label, index
}

// first answers the code of the first that holds.
func first(faults ...api.Errno) api.Errno {
	for _, code := range faults {
		if code != api.OK {
			return code
		}
	}
	return api.OK
}

func when(holds bool, code api.Errno) api.Errno {
	if holds {
		return code
	}
	return api.OK
}

func (tell *telling) code(at int) api.Errno {
	s := tell.spots[at]
	switch s.Kind {
	case api.NImport:
		return when(tell.faceOf(s.Text).Module == "", api.ErrName)
	case api.NProc:
		body := s.Kids[len(s.Kids)-1].Kids
		return when(s.Num >= 4 && (len(body) == 0 || body[len(body)-1].Kind != api.NReturn), api.ErrForm)
	case api.NLocal:
		all, same := tell.locals(at)
		isTwice := false
		for _, n := range all[:same] {
			isTwice = isTwice || n.Text == s.Text
		}
		leak := s.Num == 0 && tell.label(s.kids[0])+tell.context(at) > 0
		return first(when(isTwice, api.ErrTwice), when(len(all)+1 > 20, api.ErrSize), when(leak, api.ErrLabel))
	case api.NName, api.NItem:
		_, isArray, found := tell.variable(at)
		return first(when(!found, api.ErrName), when(isArray != (s.Kind == api.NItem), api.ErrKind))
	case api.NCall:
		return tell.callCode(at)
	case api.NSet:
		label, index := tell.target(at)
		return when(label == 0 && tell.label(s.kids[1])+index+tell.context(at) > 0, api.ErrLabel)
	case api.NOut:
		return when(s.Num == 0 && tell.label(s.kids[0])+tell.context(at) > 0, api.ErrLabel)
	case api.NIn:
		label, index := tell.target(at)
		return first(when(s.Num == 0 && tell.context(at) > 0, api.ErrLabel),
			when(label == 0 && int(s.Num)+index+tell.context(at) > 0, api.ErrLabel))
	case api.NReturn:
		p := tell.procOf(at)
		block := tell.spots[s.up]
		isLast := tell.spots[block.up].Kind == api.NProc && s.nth == len(block.Kids)-1
		return first(when(!isLast || p.Num < 4, api.ErrForm), when(p.Num < 8 && tell.label(s.kids[0]) > 0, api.ErrLabel))
	}
	return api.OK
}

func (tell *telling) callCode(at int) api.Errno {
	s := tell.spots[at]
	p, found := tell.procedure(at)
	if !found {
		return api.ErrName
	}
	if len(s.kids) != len(p.Params) {
		return api.ErrRange
	}
	leak := tell.context(at) > p.Writes
	for i, kid := range s.kids {
		leak = leak || tell.label(kid) > p.Params[i]
	}
	return first(when(!p.Gives && tell.spots[s.up].Kind != api.NDo, api.ErrKind), when(leak, api.ErrLabel))
}

// grown answers a module that has no fault, made by so many tries to change
// it; at each try it is held against the second telling.
func (m *maker) grown(t *testing.T, name string, tries int, faces, imports []api.Face, seen map[[2]int]int) api.Node {
	t.Helper()
	module := m.module(name, imports...)
	for range tries {
		next := m.changed(module)
		written, code := syntax.Print(next)
		if code != api.OK {
			continue
		}
		got, fault := Check(written, faces)
		want := tellingOf(next, faces).fault()
		if fault != want {
			t.Fatalf("Check(%q, %v) tells %v; want %v", written, faces, fault, want)
		}
		if fault.Code != api.OK {
			kind := tellingOf(next, faces).spots[fault.At].Kind
			seen[[2]int{int(fault.Code), kind}]++
			if got.Kind != 0 || got.Kids != nil {
				t.Fatalf("Check(%q) has a fault, and answers %v", written, got)
			}
			continue
		}
		if again, _ := syntax.Print(got); again != written {
			t.Fatalf("Check(%q) answers another node: %q", written, again)
		}
		seen[[2]int{}]++
		module = next
	}
	return module
}

func faceOf(module api.Node) api.Face {
	text, _ := syntax.Print(module)
	f, _, _ := face.Of(text)
	return f
}

// E1 to E6: many modules, held against the second telling.
func TestTelling(t *testing.T) {
	r := rand.New(rand.NewSource(5))
	seen := map[[2]int]int{}
	for range 300 {
		m := &maker{Rand: r, high: 2 + r.Intn(7)}
		known := faceOf(m.grown(t, "n1", 5, nil, nil, seen))
		other := known
		other.Module = "n2"
		m = &maker{Rand: r, high: 2 + r.Intn(7)}
		m.grown(t, "n0", 60, []api.Face{other, known}, []api.Face{known}, seen)
	}
	for _, want := range [][2]int{
		{}, {int(api.ErrForm), api.NProc}, {int(api.ErrForm), api.NReturn}, {int(api.ErrTwice), api.NLocal},
		{int(api.ErrName), api.NName}, {int(api.ErrName), api.NItem}, {int(api.ErrName), api.NCall},
		{int(api.ErrKind), api.NName}, {int(api.ErrKind), api.NItem}, {int(api.ErrKind), api.NCall}, {int(api.ErrRange), api.NCall},
		{int(api.ErrLabel), api.NLocal}, {int(api.ErrLabel), api.NSet}, {int(api.ErrLabel), api.NOut}, {int(api.ErrLabel), api.NIn},
		{int(api.ErrLabel), api.NCall}, {int(api.ErrLabel), api.NReturn},
	} {
		if seen[want] < 20 {
			t.Errorf("the code %d of nodes of kind %d was met %d times only", want[0], want[1], seen[want])
		}
	}
}
