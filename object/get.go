package object

import "dryshod/api"

// width is how many bytes a number has.
const width = 8

// reader is what is still to be read.
type reader struct{ rest []byte }

// noObject is thrown where bytes are those of no object.
type noObject struct{}

// whole answers the object that all bytes are.
func (r *reader) whole() api.Object {
	o := r.object()
	if len(r.rest) > 0 || !May(o) {
		panic(noObject{})
	}
	return o
}

func (r *reader) object() api.Object {
	return api.Object{
		Face:    r.face(),
		Imports: getList(r, func() api.Face { return r.face() }),
		Code: getList(r, func() api.Instr {
			return api.Instr{Op: r.int(), A: r.int(), B: r.int(), C: r.int(), N: r.number()}
		}),
		Relocs: getList(r, func() api.Reloc {
			return api.Reloc{At: r.int(), Kind: r.int(), Module: r.text(), Name: r.text()}
		}),
		Procs:     r.places(),
		Lows:      r.places(),
		Highs:     r.places(),
		Low:       r.int(),
		High:      r.int(),
		LowFrame:  r.int(),
		HighFrame: r.int(),
	}
}

func (r *reader) face() api.Face {
	return api.Face{
		Module: r.text(),
		Vars: getList(r, func() api.Var {
			return api.Var{Name: r.text(), Pub: r.bool(), Label: r.int(), Size: r.int()}
		}),
		Procs: getList(r, func() api.Proc {
			return api.Proc{Name: r.text(), Pub: r.bool(), Params: getList(r, func() int { return r.int() }), Writes: r.int(), Gives: r.bool(), Given: r.int()}
		}),
	}
}

func (r *reader) places() []api.Place {
	return getList(r, func() api.Place {
		return api.Place{Name: r.text(), At: r.int()}
	})
}

// getList reads how many items there are, and each of them as get does. No
// room is made ahead, since there may be fewer than the bytes say.
func getList[T any](r *reader, get func() T) []T {
	var items []T
	for range r.size() {
		items = append(items, get())
	}
	return items
}

func (r *reader) text() string { return string(r.take(r.size())) }

func (r *reader) bool() bool {
	switch r.number() {
	case 0:
		return false
	case 1:
		return true
	}
	panic(noObject{})
}

// size answers how much of something there is.
func (r *reader) size() int64 {
	size := r.number()
	if size < 0 {
		panic(noObject{})
	}
	return size
}

func (r *reader) int() int { return int(r.number()) }

func (r *reader) number() int64 {
	var bits uint64
	for _, b := range r.take(width) {
		bits = bits<<8 | uint64(b)
	}
	return int64(bits)
}

// take answers the next so many bytes.
func (r *reader) take(count int64) []byte {
	if count > int64(len(r.rest)) {
		panic(noObject{})
	}
	taken := r.rest[:count]
	r.rest = r.rest[count:]
	return taken
}
