package machine

import (
	"math/big"
	"math/rand"
	"slices"
	"testing"

	"dryshod/api"
	"dryshod/num"
)

// teller is the chapter told a second time: numbers and words stand in maps, a
// call is done within the order that calls, and numbers are put together
// without a bound.
type teller struct {
	api.Image
	shown     api.Shown
	isOver    bool
	fuel      int
	inputs    [2][]int64 // what is left of them
	registers map[int]int64
	words     [2]map[int64]int64
}

func tell(m api.Image, low, high []int64, fuel int) (api.Shown, [][]int64) {
	w := &teller{Image: m, fuel: fuel, inputs: [2][]int64{low, high}, registers: map[int]int64{}}
	w.words = [2]map[int64]int64{{}, {}}
	w.walk(0, 0)
	w.shown.UsedLow, w.shown.UsedHigh = len(low)-len(w.inputs[0]), len(high)-len(w.inputs[1])
	last := [][]int64{make([]int64, m.Low), make([]int64, m.High)}
	for label, words := range w.words {
		for at, value := range words {
			last[label][at] = value
		}
	}
	return w.shown, last
}

func (w *teller) stop(end int) {
	w.shown.End = end
	w.isOver = true
}

// walk does orders until the call comes back, or the run is over. So many
// calls have not come back.
func (w *teller) walk(at, calls int) {
	for !w.isOver {
		switch {
		case at >= len(w.Code):
			w.stop(api.EndWrong)
			return
		case w.shown.Steps >= w.fuel:
			w.stop(api.EndFuel)
			return
		}
		w.shown.Steps++
		o := w.Code[at]
		at++
		switch o.Op {
		case api.IJump:
			at = int(o.N)
		case api.IZero:
			if w.registers[o.A] == 0 {
				at = int(o.N)
			}
		case api.ICall:
			if calls >= 30 {
				w.stop(api.EndDeep)
				return
			}
			w.walk(int(o.N), calls+1)
		case api.IBack:
			if calls == 0 {
				w.stop(api.EndWrong)
			}
			return
		default:
			w.plain(o)
		}
	}
}

// plain does an order behind which the next one is done, if any is.
func (w *teller) plain(o api.Instr) {
	value := w.registers[o.A]
	switch o.Op {
	case api.IHalt:
		w.stop(api.EndDone)
	case api.ISet:
		w.registers[o.A] = o.N
	case api.IMove:
		w.registers[o.A] = w.registers[o.B]
	case api.IAdd:
		w.registers[o.A] = together(w.registers[o.B], o.N)
	case api.ICheck:
		if value >= o.N || value <= -1 {
			w.stop(api.EndIndex)
		}
	case api.ILoadLow, api.IPutLow:
		w.word(o, api.Low, int64(w.Low), o.Op == api.IPutLow)
	case api.ILoadHi, api.IPutHi:
		w.word(o, api.High, int64(w.High), o.Op == api.IPutHi)
	case api.IOutLow:
		w.shown.Low = append(w.shown.Low, value)
	case api.IOutHi:
		w.shown.High = append(w.shown.High, value)
	case api.IInLow, api.IInHi:
		label := o.Op - api.IInLow
		if len(w.inputs[label]) == 0 {
			w.stop(api.EndInput)
			return
		}
		w.registers[o.A], w.inputs[label] = w.inputs[label][0], w.inputs[label][1:]
	default:
		made, ok := num.Op(o.Op-20, w.registers[o.B], w.registers[o.C])
		if !ok {
			w.stop(api.EndDivided)
			return
		}
		w.registers[o.A] = made
	}
}

func (w *teller) word(o api.Instr, label int, count int64, isPut bool) {
	at := together(w.registers[o.B], o.N)
	switch {
	case at < 0 || at >= count:
		w.stop(api.EndWrong)
	case isPut:
		w.words[label][at] = w.registers[o.A]
	default:
		w.registers[o.A] = w.words[label][at]
	}
}

// together adds without a bound, and takes off what is beyond 64 bits.
func together(a, b int64) int64 {
	whole := new(big.Int).Lsh(big.NewInt(1), 64)
	sum := new(big.Int).Add(big.NewInt(a), big.NewInt(b))
	sum.Mod(sum, whole)
	if sum.Bit(63) == 1 {
		sum.Sub(sum, whole)
	}
	return sum.Int64()
}

// maker makes images that may be, of which many go on for a while.
type maker struct{ *rand.Rand }

func (m maker) number() int64 {
	if m.Intn(12) == 0 {
		edges := []int64{most, least, most - 1, least + 1, 1 << 32, -1 << 32}
		return edges[m.Intn(len(edges))]
	}
	return int64(m.Intn(9) - 3)
}

func (m maker) input() []int64 {
	list := make([]int64, m.Intn(8))
	for i := range list {
		list[i] = m.number()
	}
	return list
}

// order makes one of that kind for an image of so many orders. Register 0 is
// seldom written, so that words are often there.
func (m maker) order(k kind, count int) api.Instr {
	o := api.Instr{Op: k.op}
	for _, field := range k.fields {
		switch field {
		case 'a':
			o.A = 1 + m.Intn(api.Regs-1)
			if m.Intn(20) == 0 {
				o.A = 0
			}
		case 'b':
			o.B = m.Intn(api.Regs)
			if m.Intn(3) > 0 {
				o.B = 0
			}
		case 'c':
			o.C = m.Intn(api.Regs)
		case 'n':
			o.N = m.number()
			if k.name != "set" && m.Intn(3) > 0 {
				o.N = int64(m.Intn(4))
			}
		case 't':
			o.N = int64(m.Intn(count))
		case 's':
			o.N = int64(1 + m.Intn(api.MaxArray))
		}
	}
	return o
}

func (m maker) image() api.Image {
	made := api.Image{Code: make([]api.Instr, 1+m.Intn(30)), Low: 3 + m.Intn(4), High: 3 + m.Intn(4)}
	all := kinds()
	for i := range made.Code {
		k := all[m.Intn(len(all))]
		// What mostly ends a run is taken less often than what does not.
		for (k.name == "halt" || k.name == "back" || k.name == "div" || k.name == "mod") && m.Intn(3) > 0 {
			k = all[m.Intn(len(all))]
		}
		made.Code[i] = m.order(k, len(made.Code))
	}
	return made
}

// H2, H3: many images, against the second telling.
func TestH2Images(t *testing.T) {
	m := maker{rand.New(rand.NewSource(8))}
	var ends [api.EndWrong + 1]int
	long, both := 0, 0
	for range 60000 {
		image, low, high, fuel := m.image(), m.input(), m.input(), m.Intn(120)
		tryMay(t, image, true)
		got, words := mustRun(t, image, low, high, fuel)
		want, last := tell(image, low, high, fuel)
		if !isSame(got, want) || !slices.Equal(words[0], last[0]) || !slices.Equal(words[1], last[1]) {
			t.Fatalf("%v with %v, %v and the fuel %d: %v, %v; want %v, %v", image, low, high, fuel, got, words, want, last)
		}
		ends[want.End]++
		if want.Steps > 20 {
			long++
		}
		if len(want.Low) > 1 && len(want.High) > 1 {
			both++
		}
	}
	if slices.Min(ends[:]) < 300 || long < 3000 || both < 300 {
		t.Errorf("the runs end %v times so, %d are long, %d show both: too few", ends, long, both)
	}
}

// H4: many images, with each fuel.
func TestH4(t *testing.T) {
	m := maker{rand.New(rand.NewSource(4))}
	for range 2000 {
		image, low, high := m.image(), m.input(), m.input()
		want, last := mustRun(t, image, low, high, 100)
		if want.End != api.EndFuel {
			tryFuels(t, image, low, high, want, last)
		}
		for fuel := range 100 {
			got, words := mustRun(t, image, low, high, fuel)
			told, last := tell(image, low, high, fuel)
			if !isSame(got, told) || !slices.Equal(words[0], last[0]) || !slices.Equal(words[1], last[1]) {
				t.Fatalf("%v with %v, %v and the fuel %d: %v, %v; want %v, %v", image, low, high, fuel, got, words, told, last)
			}
			if !isBeginning(got.Low, want.Low) || !isBeginning(got.High, want.High) || got.UsedLow > want.UsedLow || got.UsedHigh > want.UsedHigh {
				t.Fatalf("%v with the fuel %d shows %v, with 100 %v", image, fuel, got, want)
			}
		}
	}
}

// P1: images that may be and that may not be, of any numbers.
func TestP1(t *testing.T) {
	m := maker{rand.New(rand.NewSource(1))}
	for range 20000 {
		image := m.image()
		o := &image.Code[m.Intn(len(image.Code))]
		switch m.Intn(5) {
		case 0:
			o.Op = int(m.number())
		case 1:
			o.A = int(m.number())
		case 2:
			o.B = int(m.number())
		case 3:
			o.C = int(m.number())
		case 4:
			o.N = m.number()
		}
		want := true
		for _, o := range image.Code {
			want = want && mayStand(o, int64(len(image.Code)))
		}
		tryMay(t, image, want)
		if _, _, code := Run(image, m.input(), m.input(), 200); want != (code == api.OK) {
			t.Fatalf("Run of %v tells %v", image, code)
		}
	}
}
