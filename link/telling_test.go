package link

import (
	"fmt"
	"slices"

	"dryshod/api"
	"dryshod/object"
)

// told answers what Link does, in the words of K1 and K2: one sentence after
// the other, each over all objects, with no table of anything.
func told(l []api.Object) (api.Image, api.Trouble) {
	for _, sentence := range []func([]api.Object) api.Trouble{toldSize, toldForm, toldImports, toldRelocs, toldMain, toldRoom, toldRange} {
		if trouble := sentence(l); trouble != (api.Trouble{}) {
			return api.Image{}, trouble
		}
	}
	return toldImage(l), api.Trouble{}
}

func toldSize(l []api.Object) api.Trouble {
	if len(l) < 1 || len(l) > 6 {
		return api.Trouble{Code: api.ErrSize}
	}
	return api.Trouble{}
}

func toldForm(l []api.Object) api.Trouble {
	for i, o := range l {
		if !object.May(o) {
			return api.Trouble{Module: i, Code: api.ErrForm}
		}
		if find(l[:i], o.Face.Module) >= 0 {
			return api.Trouble{Module: i, Code: api.ErrTwice}
		}
	}
	return api.Trouble{}
}

// find answers the number of the object of that module, or -1.
func find(l []api.Object, module string) int {
	return slices.IndexFunc(l, func(o api.Object) bool { return o.Face.Module == module })
}

func toldImports(l []api.Object) api.Trouble {
	for i, o := range l {
		for at, f := range o.Imports {
			number := find(l, f.Module)
			if number < 0 {
				return api.Trouble{Module: i, Code: api.ErrName, At: at}
			}
			// Printed, an empty list is like nil.
			if fmt.Sprint(f) != fmt.Sprint(l[number].Face) {
				return api.Trouble{Module: i, Code: api.ErrKind, At: at}
			}
		}
	}
	return api.Trouble{}
}

func toldRelocs(l []api.Object) api.Trouble {
	for i, o := range l {
		for at, r := range o.Relocs {
			isIts := r.Module == o.Face.Module
			for _, f := range o.Imports {
				isIts = isIts || r.Module == f.Module
			}
			if r.Kind != api.RelocCode && (!isIts || toldBegin(l, i, r) < 0) {
				return api.Trouble{Module: i, Code: api.ErrName, At: at}
			}
		}
	}
	return api.Trouble{}
}

// toldBegin answers what a reloc of the object with that number adds; -1, if
// what it asks for is not there.
func toldBegin(l []api.Object, own int, r api.Reloc) int {
	if r.Kind == api.RelocCode {
		return 4 + orders(l[:own])
	}
	number := find(l, r.Module)
	if number < 0 {
		return -1
	}
	places, begin := l[number].Procs, 4+orders(l[:number])
	switch r.Kind {
	case api.RelocLow:
		places, begin = l[number].Lows, lowWords(l[:number])
	case api.RelocHigh:
		places, begin = l[number].Highs, highWords(l[:number])
	}
	for _, p := range places {
		if p.Name == r.Name {
			return begin + p.At
		}
	}
	return -1
}

func orders(l []api.Object) int {
	count := 0
	for _, o := range l {
		count += len(o.Code)
	}
	return count
}

func lowWords(l []api.Object) int {
	count := 0
	for _, o := range l {
		count += o.Low
	}
	return count
}

func highWords(l []api.Object) int {
	count := 0
	for _, o := range l {
		count += o.High
	}
	return count
}

var relocOfMain = api.Reloc{Kind: api.RelocProc, Module: "main", Name: "main"}

func toldMain(l []api.Object) api.Trouble {
	for _, o := range l {
		for _, p := range o.Face.Procs {
			if o.Face.Module == "main" && fmt.Sprint(p) == "{main true [] 0 false 0}" && toldBegin(l, 0, relocOfMain) >= 0 {
				return api.Trouble{}
			}
		}
	}
	return api.Trouble{Code: api.ErrName}
}

// toldImage answers the image, though it be too great, or have orders that may
// not be.
func toldImage(l []api.Object) api.Image {
	low, high := lowWords(l), highWords(l)
	lowFrame, highFrame := 0, 0
	for _, o := range l {
		lowFrame, highFrame = max(lowFrame, o.LowFrame), max(highFrame, o.HighFrame)
	}
	image := api.Image{Low: low + 31*lowFrame, High: high + 31*highFrame}
	image.Code = []api.Instr{{Op: api.ISet, A: 6, N: int64(low)}, {Op: api.ISet, A: 7, N: int64(high)}, {Op: api.ICall, N: int64(toldBegin(l, 0, relocOfMain))}, {Op: api.IHalt}}
	for i, o := range l {
		code := slices.Clone(o.Code)
		for _, r := range o.Relocs {
			code[r.At].N += int64(toldBegin(l, i, r))
		}
		image.Code = append(image.Code, code...)
	}
	return image
}

func toldRoom(l []api.Object) api.Trouble {
	if image := toldImage(l); len(image.Code) > 20000 || image.Low > 20000 || image.High > 20000 {
		return api.Trouble{Code: api.ErrSize}
	}
	return api.Trouble{}
}

func toldRange(l []api.Object) api.Trouble {
	image := toldImage(l)
	at := 4
	for i, o := range l {
		for number := range o.Code {
			if !isRight(image.Code[at], int64(len(image.Code))) {
				return api.Trouble{Module: i, Code: api.ErrRange, At: number}
			}
			at++
		}
	}
	return api.Trouble{}
}

// isRight tells whether an order's N is as H1 asks.
func isRight(o api.Instr, orders int64) bool {
	switch o.Op {
	case api.ISet, api.IAdd, api.ILoadLow, api.ILoadHi, api.IPutLow, api.IPutHi:
		return true
	case api.IJump, api.IZero, api.ICall:
		return o.N >= 0 && o.N < orders
	case api.ICheck:
		return o.N >= 1 && o.N <= 64
	}
	return o.N == 0
}
