package whole

import (
	"math/rand"
	"strings"
	"testing"

	"dryshod/api"
	"dryshod/num"
	"dryshod/order"
	"dryshod/syntax"
)

// deed is a small one. The second telling lays a program out as one row of
// deeds on a pile of numbers, in which names have become places; nothing in it
// is done within anything else.
type deed func(w *walker)

// walker does deeds.
type walker struct {
	shown     api.Shown
	isOver    bool
	low, high []int64 // what is left of the inputs
	fuel      int
	pile      []int64
	words     []int64 // of all variables
	slots     [][api.MaxLocals]int64
	backs     []int // where calls that have not come back go on
	at        int   // the next deed
}

func (w *walker) stop(end int) {
	w.shown.End = end
	w.isOver = true
}

func (w *walker) push(value int64) { w.pile = append(w.pile, value) }

func (w *walker) pop() int64 {
	value := w.pile[len(w.pile)-1]
	w.pile = w.pile[:len(w.pile)-1]
	return value
}

// slot answers a local of the call that is being done.
func (w *walker) slot(number int) *int64 { return &w.slots[len(w.slots)-1][number] }

// layout is a program laid out.
type layout struct {
	deeds  []deed
	starts map[string]int // where procedures begin
	bases  map[string]int // where variables begin
	sizes  map[string]int
	count  int // of all words
	module string
	locals []string
}

func lay(texts []string) *layout {
	y := &layout{starts: map[string]int{}, bases: map[string]int{}, sizes: map[string]int{}}
	for _, text := range texts {
		module, _ := syntax.Parse(text)
		for _, n := range module.Kids {
			if n.Kind == api.NVar {
				size := 1
				for _, kid := range n.Kids {
					size = int(kid.Num)
				}
				y.bases[module.Text+"."+n.Text], y.sizes[module.Text+"."+n.Text] = y.count, size
				y.count += size
			}
		}
	}
	for _, text := range texts {
		module, _ := syntax.Parse(text)
		y.module = module.Text
		for _, n := range module.Kids {
			if n.Kind == api.NProc {
				y.proc(n)
			}
		}
	}
	return y
}

func (y *layout) add(d deed) { y.deeds = append(y.deeds, d) }

func (y *layout) long(text string) string {
	if !strings.Contains(text, ".") {
		text = y.module + "." + text
	}
	return text
}

func (y *layout) proc(n api.Node) {
	y.starts[y.long(n.Text)] = len(y.deeds)
	y.locals = nil
	last := len(n.Kids) - 1
	for _, param := range n.Kids[:last] {
		y.locals = append(y.locals, param.Text)
	}
	y.block(n.Kids[last])
	if n.Num < 4 {
		y.add(func(w *walker) { w.push(0) })
	}
	y.add(func(w *walker) {
		last := len(w.backs) - 1
		if last == 0 {
			w.stop(api.EndDone)
		}
		w.at = w.backs[last]
		w.backs, w.slots = w.backs[:last], w.slots[:last]
	})
}

func (y *layout) step() {
	y.add(func(w *walker) {
		if w.shown.Steps == w.fuel {
			w.stop(api.EndFuel)
		} else {
			w.shown.Steps++
		}
	})
}

func (y *layout) block(n api.Node) {
	outer := len(y.locals)
	for _, kid := range n.Kids {
		y.step()
		y.stat(kid)
	}
	y.locals = y.locals[:outer]
}

// jump goes on elsewhere, if mayGo says so; where is known later.
func (y *layout) jump(mayGo func(w *walker) bool) (target *int) {
	target = new(int)
	y.add(func(w *walker) {
		if mayGo(w) {
			w.at = *target
		}
	})
	return target
}

func isNought(w *walker) bool { return w.pop() == 0 }
func isAlways(*walker) bool   { return true }

func (y *layout) stat(n api.Node) {
	switch n.Kind {
	case api.NLocal:
		y.expr(n.Kids[0])
		y.locals = append(y.locals, n.Text)
		y.store(api.Node{Kind: api.NName, Text: n.Text})
	case api.NSet:
		y.index(n.Kids[0])
		y.expr(n.Kids[1])
		y.store(n.Kids[0])
	case api.NDo:
		y.call(n.Kids[0])
		y.add(func(w *walker) { w.pop() })
	case api.NIf:
		y.expr(n.Kids[0])
		past := y.jump(isNought)
		y.block(n.Kids[1])
		end := y.jump(isAlways)
		*past = len(y.deeds)
		for _, block := range n.Kids[2:] {
			y.block(block)
		}
		*end = len(y.deeds)
	case api.NWhile:
		again := len(y.deeds)
		y.expr(n.Kids[0])
		past := y.jump(isNought)
		y.block(n.Kids[1])
		*y.jump(isAlways) = again
		*past = len(y.deeds)
	case api.NOut:
		y.expr(n.Kids[0])
		y.out(n.Num)
	case api.NIn:
		y.index(n.Kids[0])
		y.in(n.Num)
		y.store(n.Kids[0])
	case api.NReturn:
		y.expr(n.Kids[0])
	}
}

func (y *layout) out(label int64) {
	y.add(func(w *walker) {
		list := []*[]int64{&w.shown.Low, &w.shown.High}[label]
		*list = append(*list, w.pop())
	})
}

func (y *layout) in(label int64) {
	y.add(func(w *walker) {
		input := []*[]int64{&w.low, &w.high}[label]
		if len(*input) == 0 {
			w.stop(api.EndInput)
			return
		}
		w.push((*input)[0])
		*input = (*input)[1:]
		*[]*int{&w.shown.UsedLow, &w.shown.UsedHigh}[label] += 1
	})
}

// index leaves the number of an NItem's kid on the pile.
func (y *layout) index(n api.Node) {
	if n.Kind == api.NItem {
		y.expr(n.Kids[0])
	}
}

// place answers how to come to the word of a place, whose index is popped; none, if there is no such word.
func (y *layout) place(n api.Node) func(w *walker) *int64 {
	for number := len(y.locals) - 1; number >= 0 && n.Kind == api.NName; number-- {
		if y.locals[number] == n.Text {
			return func(w *walker) *int64 { return w.slot(number) }
		}
	}
	base, size := y.bases[y.long(n.Text)], y.sizes[y.long(n.Text)]
	if n.Kind == api.NName {
		return func(w *walker) *int64 { return &w.words[base] }
	}
	return func(w *walker) *int64 {
		for i, index := 0, w.pop(); i < size; i++ {
			if int64(i) == index {
				return &w.words[base+i]
			}
		}
		w.stop(api.EndIndex)
		return nil
	}
}

func (y *layout) store(n api.Node) {
	place := y.place(n)
	y.add(func(w *walker) {
		value := w.pop()
		if found := place(w); found != nil {
			*found = value
		}
	})
}

func (y *layout) call(n api.Node) {
	for _, kid := range n.Kids {
		y.expr(kid)
	}
	name, count := y.long(n.Text), len(n.Kids)
	y.add(func(w *walker) {
		if len(w.backs) >= 30 {
			w.stop(api.EndDeep)
			return
		}
		w.slots = append(w.slots, [api.MaxLocals]int64{})
		for number := count - 1; number >= 0; number-- {
			*w.slot(number) = w.pop()
		}
		w.backs = append(w.backs, w.at)
		w.at = y.starts[name]
	})
}

func (y *layout) expr(n api.Node) {
	y.step()
	switch n.Kind {
	case api.NNumber:
		y.add(func(w *walker) { w.push(n.Num) })
	case api.NName, api.NItem:
		y.index(n)
		place := y.place(n)
		y.add(func(w *walker) {
			if found := place(w); found != nil {
				w.push(*found)
			}
		})
	case api.NCall:
		y.call(n)
	case api.NNeg:
		y.expr(n.Kids[0])
		y.add(func(w *walker) { w.push(^w.pop() + 1) })
	case api.NNot:
		y.expr(n.Kids[0])
		y.add(func(w *walker) { w.push(map[bool]int64{true: 1}[w.pop() == 0]) })
	case api.NOp:
		y.expr(n.Kids[0])
		y.expr(n.Kids[1])
		y.add(func(w *walker) {
			b := w.pop()
			value, ok := num.Op(int(n.Num), w.pop(), b)
			if w.push(value); !ok {
				w.stop(api.EndDivided)
			}
		})
	}
}

// walk answers what the program shows.
func (y *layout) walk(low, high []int64, fuel int) api.Shown {
	w := &walker{low: low, high: high, fuel: fuel, words: make([]int64, y.count)}
	w.slots = make([][api.MaxLocals]int64, 1)
	w.backs = []int{0}
	w.at = y.starts["main.main"]
	for !w.isOver {
		next := y.deeds[w.at]
		w.at++
		next(w)
	}
	return w.shown
}

// programs hands so many programs without trouble to try.
func programs(t *testing.T, seed int64, count int, try func(m *maker, texts []string)) {
	t.Helper()
	r := rand.New(rand.NewSource(seed))
	good := 0
	for range count {
		m := &maker{Rand: r}
		texts := m.program()
		_, trouble := order.Order(texts)
		if trouble.Code == api.OK {
			good++
			try(m, texts)
		} else if trouble.Code != api.ErrSize {
			t.Fatalf("Order(%q) tells %v", texts, trouble)
		}
	}
	if good < count*3/4 {
		t.Errorf("%d of %d programs only are small enough", good, count)
	}
}

// G1 to G3: many programs, held against the second telling.
func TestG2Programs(t *testing.T) {
	ends := map[int]int{}
	programs(t, 7, 500, func(m *maker, texts []string) {
		second := lay(texts)
		for range 5 {
			low, high, fuel := m.input(), m.input(), m.fuel()
			got := meant(t, texts, low, high, fuel)
			want := second.walk(low, high, fuel)
			if !isAlike(got, want) || got.Steps != want.Steps {
				t.Fatalf("model.Run(%q, %v, %v, %d) = %v; want %v", texts, low, high, fuel, got, want)
			}
			ends[got.End]++
		}
	})
	tryEnds(t, ends)
}

// tryEnds asks for runs that end in all ways that there are.
func tryEnds(t *testing.T, ends map[int]int) {
	t.Helper()
	for _, end := range []int{api.EndFuel, api.EndDone, api.EndDivided, api.EndIndex, api.EndInput, api.EndDeep} {
		if ends[end] < 50 {
			t.Errorf("%d runs only end by %d", ends[end], end)
		}
	}
}
