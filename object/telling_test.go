package object

import (
	"encoding/binary"
	"math"
	"reflect"
	"slices"

	"dryshod/api"
	"dryshod/face"
	"dryshod/machine"
	"dryshod/syntax"
)

// missing tells what an object has that I1 rules out; nothing, if it has the form.
func missing(o api.Object) string {
	for _, why := range []string{missingFaces(o), missingOrders(o), missingRelocs(o), missingPlaces(o)} {
		if why != "" {
			return why
		}
	}
	for _, number := range []int{o.Low, o.High, o.LowFrame, o.HighFrame} {
		if number < 0 || number > api.MaxWords {
			return "words"
		}
	}
	return ""
}

func missingFaces(o api.Object) string {
	if !face.May(o.Face) || len(o.Imports) > api.MaxModules-1 {
		return "faces"
	}
	names := []string{o.Face.Module}
	for _, f := range o.Imports {
		if !face.May(f) || slices.Contains(names, f.Module) {
			return "the import of " + f.Module
		}
		names = append(names, f.Module)
	}
	return ""
}

// missingOrders asks the machine about each order alone, where one that goes
// on elsewhere goes on at itself.
func missingOrders(o api.Object) string {
	if len(o.Code) > api.MaxCode {
		return "how many orders there are"
	}
	for _, order := range o.Code {
		if slices.Contains([]int{api.IJump, api.IZero, api.ICall}, order.Op) {
			order.N = 0
		}
		if !machine.May(api.Image{Code: []api.Instr{order}}) {
			return "an order"
		}
	}
	return ""
}

func missingRelocs(o api.Object) string {
	last := -1
	for _, r := range o.Relocs {
		isCode := r.Kind == api.RelocCode
		switch {
		case r.At <= last || r.At >= len(o.Code):
			return "where a reloc is"
		case isCode && (r.Module != "" || r.Name != ""):
			return "the name of code"
		case !isCode && !slices.Contains([]int{api.RelocProc, api.RelocLow, api.RelocHigh}, r.Kind):
			return "the kind of a reloc"
		case !isCode && (!syntax.IsName(r.Module) || !syntax.IsName(r.Name)):
			return "the name of a reloc"
		}
		last = r.At
	}
	return ""
}

func missingPlaces(o api.Object) string {
	for _, list := range []struct {
		places []api.Place
		end    int
	}{{o.Procs, len(o.Code)}, {o.Lows, o.Low}, {o.Highs, o.High}} {
		var names []string
		for _, p := range list.places {
			if !syntax.IsName(p.Name) || slices.Contains(names, p.Name) || p.At < 0 || p.At >= list.end {
				return "the place of " + p.Name
			}
			names = append(names, p.Name)
		}
	}
	return ""
}

// tell answers the bytes of a value behind others, as J2 says: it goes over the
// fields as the types of package api have them, and names none.
func tell(b []byte, v reflect.Value) []byte {
	switch v.Kind() {
	case reflect.Struct:
		for i := range v.NumField() {
			b = tell(b, v.Field(i))
		}
		return b
	case reflect.Slice:
		b = binary.BigEndian.AppendUint64(b, uint64(v.Len()))
		for i := range v.Len() {
			b = tell(b, v.Index(i))
		}
		return b
	case reflect.String:
		return append(binary.BigEndian.AppendUint64(b, uint64(v.Len())), v.String()...)
	case reflect.Bool:
		if v.Bool() {
			return binary.BigEndian.AppendUint64(b, 1)
		}
		return binary.BigEndian.AppendUint64(b, 0)
	}
	return binary.BigEndian.AppendUint64(b, uint64(v.Int()))
}

func told(o api.Object) []byte { return tell(nil, reflect.ValueOf(o)) }

// hear makes v what b begins with, and answers what is left behind it; false,
// if b does not begin so.
func hear(b []byte, v reflect.Value) ([]byte, bool) {
	if v.Kind() == reflect.Struct {
		isOne := true
		for i := 0; i < v.NumField() && isOne; i++ {
			b, isOne = hear(b, v.Field(i))
		}
		return b, isOne
	}
	if len(b) < 8 {
		return nil, false
	}
	number := binary.BigEndian.Uint64(b)
	b = b[8:]
	switch v.Kind() {
	case reflect.Slice:
		for range number {
			item := reflect.New(v.Type().Elem()).Elem()
			var isOne bool
			if b, isOne = hear(b, item); !isOne {
				return nil, false
			}
			v.Set(reflect.Append(v, item))
		}
		return b, true
	case reflect.String:
		if number > uint64(len(b)) {
			return nil, false
		}
		v.SetString(string(b[:number]))
		return b[number:], true
	case reflect.Bool:
		v.SetBool(number == 1)
		return b, number < 2
	}
	v.SetInt(int64(number))
	return b, true
}

// heard answers the object whose bytes these are, if there is one.
func heard(b []byte) (api.Object, bool) {
	var o api.Object
	rest, isOne := hear(b, reflect.ValueOf(&o).Elem())
	if !isOne || len(rest) > 0 || missing(o) != "" {
		return api.Object{}, false
	}
	return o, true
}

// leaves answers all numbers, texts, bools and lists of a value, that of a list
// ahead of its items'.
func leaves(v reflect.Value) []reflect.Value {
	var all []reflect.Value
	switch v.Kind() {
	case reflect.Struct:
		for i := range v.NumField() {
			all = append(all, leaves(v.Field(i))...)
		}
		return all
	case reflect.Slice:
		all = append(all, v)
		for i := range v.Len() {
			all = append(all, leaves(v.Index(i))...)
		}
		return all
	}
	return append(all, v)
}

// numbers are those at which something ends.
var numbers = []int64{
	math.MinInt64, -1 << 32, -2, -1, 0, 1, 2, 3, 4, 5, 6, 7, 8, 9, 10, 11, 12, 13, 14, 15, 16, 17, 18, 19, 20, 21, 25, 29, 30,
	63, 64, 65, 255, 256, 19999, 20000, 20001, 1<<31 - 1, 1 << 32, 1<<32 + 1, 1<<56 + 1, math.MaxInt64,
}

var texts = []string{"", "m", "a", "b", "x", "hs", "p", "q", "main", "a.x", "low", "lows", "1", "x1", "_x", "x_", "X", " x", "x ", "x#", "é", "x\x00", "abcdefghijklmnop", "abcdefghijklmnopq"}
