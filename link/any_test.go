package link

import (
	"math"
	"math/rand"
	"testing"

	"dryshod/api"
)

// chance makes objects others, as a source of random numbers says.
type chance struct{ *rand.Rand }

func (c chance) name() string {
	return []string{"main", "a", "b", "z", "x", "hs", "add", "twice", "own", "other"}[c.Intn(10)]
}

func (c chance) number() int64 {
	return []int64{math.MinInt64, -19, -1, 0, 1, 2, 3, 11, 28, 29, 63, 64, 19999, 20000, math.MaxInt64 - 3, math.MaxInt64}[c.Intn(16)]
}

func (c chance) size() int {
	return []int{-1, 0, 1, 2, 5, 300, 640, 645, 19000, 20000, 20001}[c.Intn(11)]
}

// some answers one of a list, which is not empty.
func some[T any](c chance, list []T) *T { return &list[c.Intn(len(list))] }

// changeFace changes something that one module knows of itself, or of another.
func (c chance) changeFace(o *api.Object) {
	f := &o.Face
	if len(o.Imports) > 0 && c.Intn(2) == 0 {
		f = some(c, o.Imports)
	}
	switch c.Intn(8) {
	case 0:
		f.Module = c.name()
	case 1:
		f.Vars = append(f.Vars, api.Var{Name: c.name(), Pub: true, Label: c.Intn(2), Size: c.Intn(3)})
	case 2:
		f.Procs = append(f.Procs, api.Proc{Name: c.name(), Pub: true, Writes: c.Intn(2)})
	case 3:
		f.Vars = nil
	case 4:
		f.Procs = nil
	case 5:
		o.Imports = append(o.Imports, []api.Face{faceA(), faceB(), faceMain(), {Module: c.name()}}[c.Intn(4)])
	default:
		for i := range f.Procs {
			p := &f.Procs[i]
			p.Name, p.Writes, p.Gives = c.name(), c.Intn(2), c.Intn(2) == 0
		}
	}
}

// changePlaces changes where something stands, or what it is called.
func (c chance) changePlaces(o *api.Object) {
	places := *some(c, []*[]api.Place{&o.Procs, &o.Lows, &o.Highs})
	if len(*places) == 0 || c.Intn(4) == 0 {
		*places = append(*places, api.Place{Name: c.name()})
		return
	}
	p := some(c, *places)
	switch c.Intn(3) {
	case 0:
		p.Name = c.name()
	case 1:
		p.At = c.Intn(6)
	case 2:
		*places = (*places)[:len(*places)-1]
	}
}

func (c chance) changeReloc(o *api.Object) {
	if len(o.Relocs) == 0 {
		return
	}
	r := some(c, o.Relocs)
	switch c.Intn(5) {
	case 0:
		r.Kind, r.Module, r.Name = api.RelocCode, "", ""
	case 1:
		r.Kind = 1 + c.Intn(4)
	case 2:
		r.Module = c.name()
	case 3:
		r.Name = c.name()
	case 4:
		r.At += c.Intn(3) - 1
	}
}

func (c chance) changeOrder(o *api.Object) {
	if len(o.Code) == 0 {
		return
	}
	i := some(c, o.Code)
	switch c.Intn(4) {
	case 0:
		i.N = c.number()
	case 1:
		*i = api.Instr{Op: []int{api.IJump, api.IZero, api.ICall, api.ISet, api.ICheck, api.IBack}[c.Intn(6)], N: c.number()}
	case 2:
		*i = api.Instr{Op: api.ISet + c.Intn(api.IHalt)}
	case 3:
		o.Code = append(o.Code, long("", c.Intn(3)*9990).Code...)
	}
}

func (c chance) changeWords(o *api.Object) {
	**some(c, []*int{&o.Low, &o.High, &o.LowFrame, &o.HighFrame}) = c.size()
}

// objects answers some, of which most could be linked ahead of their changes.
func (c chance) objects() []api.Object {
	l := three()
	if c.Intn(4) == 0 {
		l = append(l, []api.Object{{}, empty("z"), objectA(), objectMain()}[c.Intn(4)])
	}
	c.Shuffle(len(l), func(i, j int) { l[i], l[j] = l[j], l[i] })
	if c.Intn(10) == 0 {
		l = l[1:]
	}
	changes := []func(*api.Object){c.changeFace, c.changePlaces, c.changeReloc, c.changeOrder, c.changeWords}
	for range c.Intn(4) {
		changes[c.Intn(len(changes))](some(c, l))
	}
	return l
}

// K1, K2: whatever objects there are, Link answers as the second telling does.
func TestK2Any(t *testing.T) {
	c := chance{rand.New(rand.NewSource(11))}
	codes := map[api.Errno]int{}
	for range 20000 {
		l := c.objects()
		_, trouble := told(l)
		codes[trouble.Code]++
		try(t, "any", l, trouble)
		if t.Failed() {
			t.Fatalf("of %v", l)
		}
	}
	for _, code := range []api.Errno{api.OK, api.ErrSize, api.ErrForm, api.ErrKind, api.ErrName, api.ErrTwice, api.ErrRange} {
		if codes[code] < 300 {
			t.Errorf("so many are told so: %v", codes)
		}
	}
}
