package object

import (
	"dryshod/api"
	"dryshod/face"
	"dryshod/machine"
	"dryshod/syntax"
)

// names is a set of them.
type names map[string]struct{}

// May tells whether o has the form of an object: see doc/09-compile.md.
func May(o api.Object) bool {
	orders := len(o.Code)
	return mayFaces(o.Face, o.Imports) && mayCode(o.Code) && mayRelocs(o.Relocs, orders) &&
		mayWords(o.Low, o.High, o.LowFrame, o.HighFrame) &&
		mayPlaces(o.Procs, orders) && mayPlaces(o.Lows, o.Low) && mayPlaces(o.Highs, o.High)
}

func mayFaces(own api.Face, imports []api.Face) bool {
	if !face.May(own) || len(imports) > api.MaxModules-1 {
		return false
	}
	modules := names{own.Module: {}}
	for _, f := range imports {
		if !face.May(f) {
			return false
		}
		modules[f.Module] = struct{}{}
	}
	// Where two are alike, fewer are known.
	return len(modules) == len(imports)+1
}

func mayCode(code []api.Instr) bool {
	if len(code) > api.MaxCode {
		return false
	}
	for _, order := range code {
		if !machine.IsOrder(order) {
			return false
		}
	}
	return true
}

// mayRelocs tells whether these may be the relocs of so many orders.
func mayRelocs(relocs []api.Reloc, orders int) bool {
	least := 0
	for _, r := range relocs {
		if r.At < least || r.At >= orders || !mayReloc(r) {
			return false
		}
		least = r.At + 1
	}
	return true
}

func mayReloc(r api.Reloc) bool {
	switch r.Kind {
	case api.RelocCode:
		return r.Module == "" && r.Name == ""
	case api.RelocProc, api.RelocLow, api.RelocHigh:
		return syntax.IsName(r.Module) && syntax.IsName(r.Name)
	}
	return false
}

func mayWords(counts ...int) bool {
	for _, count := range counts {
		if count < 0 || count > api.MaxWords {
			return false
		}
	}
	return true
}

// mayPlaces tells whether these may be places among so many orders, or words.
func mayPlaces(places []api.Place, count int) bool {
	known := names{}
	for _, p := range places {
		if !syntax.IsName(p.Name) || p.At < 0 || p.At >= count {
			return false
		}
		known[p.Name] = struct{}{}
	}
	return len(known) == len(places)
}
