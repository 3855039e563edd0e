package compile

import (
	"slices"
	"testing"

	"dryshod/api"
)

// I1: each reloc stands at an order to which it can add what it does, and asks
// for what is there: in the object itself, or in the face of one that it imports.
func TestI1Relocs(t *testing.T) {
	o := made(t, rich, richFaces(t)...)
	kinds := map[int]int{}
	for _, r := range o.Relocs {
		var ops []int
		switch r.Kind {
		case api.RelocCode:
			ops = []int{api.IJump, api.IZero, api.ICall, api.ISet}
		case api.RelocProc:
			ops = []int{api.ICall, api.ISet}
		case api.RelocLow:
			ops = []int{api.ILoadLow, api.IPutLow, api.ISet}
		case api.RelocHigh:
			ops = []int{api.ILoadHi, api.IPutHi, api.ISet}
		}
		if !slices.Contains(ops, o.Code[r.At].Op) {
			t.Errorf("%v stands at %v", r, o.Code[r.At])
		}
		if r.Kind != api.RelocCode && !isThere(o, r) {
			t.Errorf("%v is not there", r)
		}
		kinds[r.Kind]++
	}
	if len(kinds) != 4 {
		t.Errorf("the relocs are of these kinds: %v", kinds)
	}
}

// isThere tells whether what a reloc asks for can be found by K1.
func isThere(o api.Object, r api.Reloc) bool {
	isIt := func(p api.Place) bool { return p.Name == r.Name }
	if r.Module == o.Face.Module {
		return slices.ContainsFunc([][]api.Place{o.Procs, o.Lows, o.Highs}[r.Kind-api.RelocProc], isIt)
	}
	for _, f := range o.Imports {
		if f.Module != r.Module {
			continue
		}
		if r.Kind == api.RelocProc {
			return slices.ContainsFunc(f.Procs, func(p api.Proc) bool { return p.Name == r.Name })
		}
		return slices.ContainsFunc(f.Vars, func(v api.Var) bool { return v.Name == r.Name && v.Label == r.Kind-api.RelocLow })
	}
	return false
}
