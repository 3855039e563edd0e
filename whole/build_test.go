package whole

import (
	"bytes"
	"reflect"
	"testing"

	"dryshod/api"
	"dryshod/build"
	"dryshod/compile"
	"dryshod/face"
	"dryshod/link"
	"dryshod/machine"
	"dryshod/object"
	"dryshod/syntax"
)

// built answers the image of a program without trouble. L1: it is that of the
// objects that are made of the texts apart.
func built(t *testing.T, texts []string) api.Image {
	t.Helper()
	image, trouble := build.Build(texts)
	if trouble != (api.Trouble{}) {
		t.Fatalf("Build(%q) tells %v", texts, trouble)
	}
	if want := linked(t, madeApart(t, texts)); !reflect.DeepEqual(image, want) {
		t.Fatalf("Build(%q) = %v; want %v", texts, image, want)
	}
	if !machine.May(image) {
		t.Fatalf("of %q no image is made that may be: %v", texts, image)
	}
	return image
}

// madeApart answers the objects of a program without trouble, each of which was
// written as bytes and read again.
func madeApart(t *testing.T, texts []string) []api.Object {
	t.Helper()
	known := map[string]api.Face{}
	for _, text := range texts {
		f, _, _ := face.Of(text)
		known[f.Module] = f
	}
	var objects []api.Object
	for _, text := range texts {
		_, imports, _ := face.Of(text)
		var faces []api.Face
		for _, name := range imports {
			faces = append(faces, known[name])
		}
		o, fault := compile.Make(text, faces)
		if fault != (api.Fault{}) {
			t.Fatalf("Make(%q, %v) tells %v", text, faces, fault)
		}
		tryBounds(t, text, o)
		objects = append(objects, throughBytes(t, o))
	}
	return objects
}

// throughBytes answers what is read where an object is written.
func throughBytes(t *testing.T, o api.Object) api.Object {
	t.Helper()
	b, code := object.Put(o)
	if code != api.OK {
		t.Fatalf("Put(%v) tells %v", o, code)
	}
	got, code := object.Get(b)
	again, _ := object.Put(got)
	if code != api.OK || !bytes.Equal(again, b) {
		t.Fatalf("%v comes back as %v, %v", o, got, code)
	}
	return got
}

func countNodes(n api.Node) int {
	count := 1
	for _, kid := range n.Kids {
		count += countNodes(kid)
	}
	return count
}

// tryBounds: I2 says how great an object may be. That it has at most six
// orders for each node, so that whatever modules there are find room in one
// image, is more than I2 asks for.
func tryBounds(t *testing.T, text string, o api.Object) {
	t.Helper()
	module, _ := syntax.Parse(text)
	if count := countNodes(module); len(o.Code) > 6*count || o.LowFrame > 300 || o.HighFrame > 300 {
		t.Errorf("%q has %d nodes, its object %d orders, and the frames %d and %d", text, count, len(o.Code), o.LowFrame, o.HighFrame)
	}
}

// linked answers the image of objects with which there is no trouble.
func linked(t *testing.T, objects []api.Object) api.Image {
	t.Helper()
	image, trouble := link.Link(objects)
	if trouble != (api.Trouble{}) {
		t.Fatalf("Link(%v) tells %v", objects, trouble)
	}
	return image
}

// K1: a module that is made anew is linked with those that knew it before, as
// long as its face is the same.
func TestK1Anew(t *testing.T) {
	before := "module a;pub low x;low y;pub proc p(low n)low{x=n;}"
	known, _, _ := face.Of(before)
	main, fault := compile.Make("module main;import a;pub proc main()low{do a.p(7);out low a.x;}", []api.Face{known})
	if fault != (api.Fault{}) {
		t.Fatal(fault)
	}
	for text, want := range map[string]api.Errno{
		before: api.OK,
		"module a;high zs[9];pub low x;pub proc p(low m)low{x=z();x=x+m;}proc q()low{}proc z()low gives low{return 0;}": api.OK,
		"module a;pub proc p(low n)low{low k=n;while(k){x=x+1;k=k-1;}}low y;pub low x;low z[4];":                        api.OK,
		"module a;pub low x;low y;pub proc p(low n)low{x=n;}pub low z;":                                                 api.ErrKind,
		"module a;pub low x;pub low y;pub proc p(low n)low{x=n;}":                                                       api.ErrKind,
		"module a;pub high x;low y;pub proc p(low n)low{x=n;}":                                                          api.ErrKind,
		"module a;pub low x;low y;pub proc p(high n)low{}":                                                              api.ErrKind,
		"module a;pub low x;low y;pub proc p(low n)low gives low{x=n;return 0;}":                                        api.ErrKind,
		"module a;low x;low y;pub proc p(low n)low{x=n;}":                                                               api.ErrKind,
		"module aa;pub low x;low y;pub proc p(low n)low{x=n;}":                                                          api.ErrName,
	} {
		a, fault := compile.Make(text, nil)
		if fault != (api.Fault{}) {
			t.Fatalf("%s has %v", text, fault)
		}
		for number, objects := range [][]api.Object{{main, a}, {a, main}} {
			image, trouble := link.Link(objects)
			if want != api.OK {
				if trouble != (api.Trouble{Module: number, Code: want}) {
					t.Errorf("with %s Link tells %v", text, trouble)
				}
				continue
			}
			if shown, _ := done(t, image, nil, nil, api.MaxFuel); !isAlike(shown, api.Shown{End: api.EndDone, Low: l(7)}) {
				t.Errorf("with %s is shown %v", text, shown)
			}
		}
	}
}
