package whole

import (
	"bytes"
	"slices"
	"testing"

	"dryshod/api"
	"dryshod/compile"
	"dryshod/face"
	"dryshod/machine"
	"dryshod/object"
	"dryshod/syntax"
)

// build answers the image of a program without trouble.
func build(t *testing.T, texts []string) api.Image {
	t.Helper()
	known := map[string]api.Face{}
	for _, text := range texts {
		f, _, _ := face.Of(text)
		known[f.Module] = f
	}
	var objects []api.Object
	for _, text := range texts {
		_, imports, _ := face.Of(text)
		var faces []api.Face
		for _, name := range imports {
			faces = append(faces, known[name])
		}
		o, fault := compile.Make(text, faces)
		if fault != (api.Fault{}) {
			t.Fatalf("Make(%q, %v) tells %v", text, faces, fault)
		}
		tryBounds(t, text, o)
		objects = append(objects, throughBytes(t, o))
	}
	image := linked(t, objects)
	if !machine.May(image) {
		t.Fatalf("of %q no image is made that may be: %v", texts, image)
	}
	return image
}

// throughBytes answers what is read where an object is written.
func throughBytes(t *testing.T, o api.Object) api.Object {
	t.Helper()
	b, code := object.Put(o)
	if code != api.OK {
		t.Fatalf("Put(%v) tells %v", o, code)
	}
	got, code := object.Get(b)
	again, _ := object.Put(got)
	if code != api.OK || !bytes.Equal(again, b) {
		t.Fatalf("%v comes back as %v, %v", o, got, code)
	}
	return got
}

func countNodes(n api.Node) int {
	count := 1
	for _, kid := range n.Kids {
		count += countNodes(kid)
	}
	return count
}

// tryBounds: I2 says how great an object may be. That it has at most six
// orders for each node, so that whatever modules there are find room in one
// image, is more than I2 asks for.
func tryBounds(t *testing.T, text string, o api.Object) {
	t.Helper()
	module, _ := syntax.Parse(text)
	if count := countNodes(module); len(o.Code) > 6*count || o.LowFrame > 300 || o.HighFrame > 300 {
		t.Errorf("%q has %d nodes, its object %d orders, and the frames %d and %d", text, count, len(o.Code), o.LowFrame, o.HighFrame)
	}
}

// bases are where what an object has begins in an image.
type bases struct{ code, low, high int }

// linked answers the image of objects in the words of K2, as long as there is
// no linker; nothing is asked that K1 asks.
func linked(t *testing.T, objects []api.Object) api.Image {
	t.Helper()
	at := map[string]bases{}
	known := map[string]api.Object{}
	end := bases{code: 4}
	lowFrame, highFrame := 0, 0
	for _, o := range objects {
		at[o.Face.Module], known[o.Face.Module] = end, o
		end = bases{end.code + len(o.Code), end.low + o.Low, end.high + o.High}
		lowFrame, highFrame = max(lowFrame, o.LowFrame), max(highFrame, o.HighFrame)
	}
	// where answers what a reloc of an object adds.
	where := func(own string, r api.Reloc) int {
		if r.Kind == api.RelocCode {
			return at[own].code
		}
		o, base := known[r.Module], at[r.Module]
		places, begin := o.Procs, base.code
		switch r.Kind {
		case api.RelocLow:
			places, begin = o.Lows, base.low
		case api.RelocHigh:
			places, begin = o.Highs, base.high
		}
		i := slices.IndexFunc(places, func(p api.Place) bool { return p.Name == r.Name })
		if i < 0 {
			t.Fatalf("%s asks for %v, which is not there", own, r)
		}
		return begin + places[i].At
	}
	main := where("main", api.Reloc{Kind: api.RelocProc, Module: "main", Name: "main"})
	image := api.Image{Low: end.low + (api.MaxCalls+1)*lowFrame, High: end.high + (api.MaxCalls+1)*highFrame}
	image.Code = []api.Instr{{Op: api.ISet, A: 6, N: int64(end.low)}, {Op: api.ISet, A: 7, N: int64(end.high)}, {Op: api.ICall, N: int64(main)}, {Op: api.IHalt}}
	for _, o := range objects {
		code := slices.Clone(o.Code)
		for _, r := range o.Relocs {
			code[r.At].N += int64(where(o.Face.Module, r))
		}
		image.Code = append(image.Code, code...)
	}
	return image
}
