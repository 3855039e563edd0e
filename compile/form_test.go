package compile

import (
	"slices"
	"testing"

	"dryshod/api"
	"dryshod/face"
	"dryshod/machine"
	"dryshod/syntax"
)

// missing tells what an object has that I1 rules out; nothing, if it has the form.
func missing(o api.Object) string {
	for _, why := range []string{missingFaces(o), missingOrders(o), missingRelocs(o), missingPlaces(o)} {
		if why != "" {
			return why
		}
	}
	for _, number := range []int{o.Low, o.High, o.LowFrame, o.HighFrame} {
		if number < 0 || number > api.MaxWords {
			return "words"
		}
	}
	return ""
}

func missingFaces(o api.Object) string {
	if !face.May(o.Face) || len(o.Imports) > api.MaxModules-1 {
		return "faces"
	}
	names := []string{o.Face.Module}
	for _, f := range o.Imports {
		if !face.May(f) || slices.Contains(names, f.Module) {
			return "the import of " + f.Module
		}
		names = append(names, f.Module)
	}
	return ""
}

// missingOrders asks the machine about each order alone, where one that goes
// on elsewhere goes on at itself.
func missingOrders(o api.Object) string {
	if len(o.Code) > api.MaxCode {
		return "how many orders there are"
	}
	for _, order := range o.Code {
		if slices.Contains([]int{api.IJump, api.IZero, api.ICall}, order.Op) {
			order.N = 0
		}
		if !machine.May(api.Image{Code: []api.Instr{order}}) {
			return "an order"
		}
	}
	return ""
}

func missingRelocs(o api.Object) string {
	last := -1
	for _, r := range o.Relocs {
		isCode := r.Kind == api.RelocCode
		switch {
		case r.At <= last || r.At >= len(o.Code):
			return "where a reloc is"
		case isCode && (r.Module != "" || r.Name != ""):
			return "the name of code"
		case !isCode && !slices.Contains([]int{api.RelocProc, api.RelocLow, api.RelocHigh}, r.Kind):
			return "the kind of a reloc"
		case !isCode && (!syntax.IsName(r.Module) || !syntax.IsName(r.Name)):
			return "the name of a reloc"
		}
		last = r.At
	}
	return ""
}

func missingPlaces(o api.Object) string {
	for _, list := range []struct {
		places []api.Place
		end    int
	}{{o.Procs, len(o.Code)}, {o.Lows, o.Low}, {o.Highs, o.High}} {
		var names []string
		for _, p := range list.places {
			if !syntax.IsName(p.Name) || slices.Contains(names, p.Name) || p.At < 0 || p.At >= list.end {
				return "the place of " + p.Name
			}
			names = append(names, p.Name)
		}
	}
	return ""
}

// I1: each reloc stands at an order to which it can add what it does, and asks
// for what is there: in the object itself, or in the face of one that it imports.
func TestI1Relocs(t *testing.T) {
	o := made(t, rich, richFaces(t)...)
	kinds := map[int]int{}
	for _, r := range o.Relocs {
		var ops []int
		switch r.Kind {
		case api.RelocCode:
			ops = []int{api.IJump, api.IZero, api.ICall, api.ISet}
		case api.RelocProc:
			ops = []int{api.ICall, api.ISet}
		case api.RelocLow:
			ops = []int{api.ILoadLow, api.IPutLow, api.ISet}
		case api.RelocHigh:
			ops = []int{api.ILoadHi, api.IPutHi, api.ISet}
		}
		if !slices.Contains(ops, o.Code[r.At].Op) {
			t.Errorf("%v stands at %v", r, o.Code[r.At])
		}
		if r.Kind != api.RelocCode && !isThere(o, r) {
			t.Errorf("%v is not there", r)
		}
		kinds[r.Kind]++
	}
	if len(kinds) != 4 {
		t.Errorf("the relocs are of these kinds: %v", kinds)
	}
}

// isThere tells whether what a reloc asks for can be found by K1.
func isThere(o api.Object, r api.Reloc) bool {
	isIt := func(p api.Place) bool { return p.Name == r.Name }
	if r.Module == o.Face.Module {
		return slices.ContainsFunc([][]api.Place{o.Procs, o.Lows, o.Highs}[r.Kind-api.RelocProc], isIt)
	}
	for _, f := range o.Imports {
		if f.Module != r.Module {
			continue
		}
		if r.Kind == api.RelocProc {
			return slices.ContainsFunc(f.Procs, func(p api.Proc) bool { return p.Name == r.Name })
		}
		return slices.ContainsFunc(f.Vars, func(v api.Var) bool { return v.Name == r.Name && v.Label == r.Kind-api.RelocLow })
	}
	return false
}
