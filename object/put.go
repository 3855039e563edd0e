package object

import "dryshod/api"

// writer is what was written up to now.
type writer struct{ bytes []byte }

func (w *writer) object(o api.Object) {
	w.face(o.Face)
	putList(w, o.Imports, func(f api.Face) { w.face(f) })
	putList(w, o.Code, func(order api.Instr) {
		w.ints(order.Op, order.A, order.B, order.C)
		w.number(order.N)
	})
	putList(w, o.Relocs, func(r api.Reloc) {
		w.ints(r.At, r.Kind)
		w.text(r.Module)
		w.text(r.Name)
	})
	for _, places := range [][]api.Place{o.Procs, o.Lows, o.Highs} {
		putList(w, places, func(p api.Place) {
			w.text(p.Name)
			w.ints(p.At)
		})
	}
	w.ints(o.Low, o.High, o.LowFrame, o.HighFrame)
}

func (w *writer) face(f api.Face) {
	w.text(f.Module)
	putList(w, f.Vars, func(v api.Var) {
		w.text(v.Name)
		w.bool(v.Pub)
		w.ints(v.Label, v.Size)
	})
	putList(w, f.Procs, func(p api.Proc) {
		w.text(p.Name)
		w.bool(p.Pub)
		putList(w, p.Params, func(label int) { w.ints(label) })
		w.ints(p.Writes)
		w.bool(p.Gives)
		w.ints(p.Given)
	})
}

// putList writes how many items there are, and each of them as put does.
func putList[T any](w *writer, items []T, put func(T)) {
	w.ints(len(items))
	for _, item := range items {
		put(item)
	}
}

func (w *writer) text(text string) {
	w.ints(len(text))
	w.bytes = append(w.bytes, text...)
}

func (w *writer) bool(is bool) {
	if is {
		w.number(1)
	} else {
		w.number(0)
	}
}

func (w *writer) ints(numbers ...int) {
	for _, number := range numbers {
		w.number(int64(number))
	}
}

func (w *writer) number(number int64) {
	for left := width; left > 0; left-- {
		w.bytes = append(w.bytes, byte(number>>(8*(left-1))))
	}
}
