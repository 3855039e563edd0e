package link

import (
	"slices"

	"dryshod/api"
	"dryshod/face"
	"dryshod/machine"
	"dryshod/object"
	"dryshod/order"
)

// Registers that say where the frames of a call begin.
const (
	lowFrames  = 6
	highFrames = 7
)

// ahead is how many orders stand ahead of those of objects.
const ahead = 4

// thing is what a reloc can ask for; its kind is the reloc's. Of RelocCode it
// has no name: it is all orders of the module.
type thing struct {
	kind         int
	module, name string
}

// linker makes objects an image; modules are their faces, by their names;
// begins says where in the image things begin.
type linker struct {
	api.Image
	objects []api.Object
	modules map[string]api.Face
	begins  map[thing]int
}

// refuse throws a trouble of the object with that number.
func refuse(number int, code api.Errno, at int) {
	panic(api.Trouble{Module: number, Code: code, At: at})
}

// lay lays the objects one behind the other, and leaves room ahead of them.
func (k *linker) lay() {
	if len(k.objects) == 0 || len(k.objects) > api.MaxModules {
		refuse(0, api.ErrSize, 0)
	}
	k.Code = make([]api.Instr, ahead)
	for number, o := range k.objects {
		if !object.May(o) {
			refuse(number, api.ErrForm, 0)
		}
		if _, found := k.modules[o.Face.Module]; found {
			refuse(number, api.ErrTwice, 0)
		}
		k.add(o)
	}
}

// add lays an object behind those that lie already.
func (k *linker) add(o api.Object) {
	module := o.Face.Module
	k.modules[module] = o.Face
	k.begins[thing{kind: api.RelocCode, module: module}] = len(k.Code)
	k.place(api.RelocProc, module, o.Procs, len(k.Code))
	k.place(api.RelocLow, module, o.Lows, k.Low)
	k.place(api.RelocHigh, module, o.Highs, k.High)
	k.Code = append(k.Code, o.Code...)
	k.Low += o.Low
	k.High += o.High
}

// place makes places of a module known, of which the first could be at begin.
func (k *linker) place(kind int, module string, places []api.Place, begin int) {
	for _, p := range places {
		k.begins[thing{kind, module, p.Name}] = begin + p.At
	}
}

func (k *linker) tryImports() {
	for number, o := range k.objects {
		for i, known := range o.Imports {
			own, found := k.modules[known.Module]
			if !found {
				refuse(number, api.ErrName, i)
			}
			if !face.Same(known, own) {
				refuse(number, api.ErrKind, i)
			}
		}
	}
}

func (k *linker) tryRelocs() {
	for number, o := range k.objects {
		for i, r := range o.Relocs {
			if _, found := k.begins[asked(o, r)]; !found || !knows(o, r) {
				refuse(number, api.ErrName, i)
			}
		}
	}
}

// asked answers what a reloc of o asks for.
func asked(o api.Object, r api.Reloc) thing {
	if r.Kind == api.RelocCode {
		return thing{kind: r.Kind, module: o.Face.Module}
	}
	return thing{r.Kind, r.Module, r.Name}
}

// knows tells whether o knows the module that a reloc of it asks for.
func knows(o api.Object, r api.Reloc) bool {
	isIts := func(known api.Face) bool { return known.Module == r.Module }
	return r.Kind == api.RelocCode || isIts(o.Face) || slices.ContainsFunc(o.Imports, isIts)
}

// main answers where the procedure begins with which the program does.
func (k *linker) main() (int, bool) {
	begin, found := k.begins[thing{api.RelocProc, "main", "main"}]
	return begin, found
}

func (k *linker) tryMain() {
	if _, found := k.main(); !found || !slices.ContainsFunc(k.modules["main"].Procs, order.IsMain) {
		refuse(0, api.ErrName, 0)
	}
}

// begin writes the orders ahead of those of objects, and adds the frames
// behind their words.
func (k *linker) begin() {
	main, _ := k.main()
	k.Code[0] = api.Instr{Op: api.ISet, A: lowFrames, N: int64(k.Low)}
	k.Code[1] = api.Instr{Op: api.ISet, A: highFrames, N: int64(k.High)}
	k.Code[2] = api.Instr{Op: api.ICall, N: int64(main)}
	k.Code[3] = api.Instr{Op: api.IHalt}
	low, high := 0, 0
	for _, o := range k.objects {
		low, high = max(low, o.LowFrame), max(high, o.HighFrame)
	}
	// One more than there may be calls: what a call that is one too many is
	// given is written ahead of it.
	k.Low += (api.MaxCalls + 1) * low
	k.High += (api.MaxCalls + 1) * high
}

func (k *linker) tryRoom() {
	if len(k.Code) > api.MaxCode || k.Low > api.MaxWords || k.High > api.MaxWords {
		refuse(0, api.ErrSize, 0)
	}
}

// orders answers those of o as they lie in the image.
func (k *linker) orders(o api.Object) []api.Instr {
	begin := k.begins[thing{kind: api.RelocCode, module: o.Face.Module}]
	return k.Code[begin : begin+len(o.Code)]
}

func (k *linker) relocate() {
	for _, o := range k.objects {
		orders := k.orders(o)
		for _, r := range o.Relocs {
			orders[r.At].N += int64(k.begins[asked(o, r)])
		}
	}
}

// tryOrders refuses the first order that no image may have: one that goes on
// where no order is, or one that has become another by its reloc.
func (k *linker) tryOrders() {
	for number, o := range k.objects {
		for at, one := range k.orders(o) {
			if !machine.IsOrderAmong(one, len(k.Code)) {
				refuse(number, api.ErrRange, at)
			}
		}
	}
}
