package check

import (
	"math/rand"
	"slices"
	"strings"
	"testing"

	"dryshod/api"
	"dryshod/num"
	"dryshod/syntax"
)

// run is one of a program whose modules are checked, as chapter 7 tells it, as
// far as E7 asks: what comes out low, and whether it is done.
type run struct {
	modules       map[string]api.Node
	vars          map[string][]int64 // by the module's name, a point, and the variable's
	low, high     []int64            // inputs that are left
	outLow        []int64
	usedLow, fuel int
	calls         int
}

// ended is thrown where a run ends ahead of its time.
type ended struct{}

// frame is a call: the module that it runs in, and its locals.
type frame struct {
	module string
	locals []local
}

type local struct {
	name  string
	value int64
}

// start runs main of the last module, and tells whether it came back.
func start(program []api.Node, low, high []int64, fuel int) (r *run, isDone bool) {
	r = &run{modules: map[string]api.Node{}, vars: map[string][]int64{}, low: low, high: high, fuel: fuel}
	for _, module := range program {
		r.modules[module.Text] = module
		for _, n := range module.Kids {
			if n.Kind == api.NVar {
				size := 1
				if len(n.Kids) > 0 {
					size = int(n.Kids[0].Num)
				}
				r.vars[module.Text+"."+n.Text] = make([]int64, size)
			}
		}
	}
	defer func() {
		if lost := recover(); lost != nil {
			_ = lost.(ended)
			isDone = false
		}
	}()
	r.call(program[len(program)-1].Text, "main", nil)
	return r, true
}

func (r *run) step() {
	if r.fuel == 0 {
		panic(ended{})
	}
	r.fuel--
}

func (f *frame) long(text string) string {
	if strings.Contains(text, ".") {
		return text
	}
	return f.module + "." + text
}

func (r *run) call(module, name string, args []int64) int64 {
	if r.calls++; r.calls > api.MaxCalls {
		panic(ended{})
	}
	at := slices.IndexFunc(r.modules[module].Kids, func(n api.Node) bool { return n.Kind == api.NProc && n.Text == name })
	proc := r.modules[module].Kids[at]
	f := &frame{module: module}
	for i, value := range args {
		f.locals = append(f.locals, local{proc.Kids[i].Text, value})
	}
	value := r.block(f, proc.Kids[len(proc.Kids)-1])
	r.calls--
	return value
}

// block answers the value of its NReturn, if it has one.
func (r *run) block(f *frame, n api.Node) (value int64) {
	first := len(f.locals)
	for _, kid := range n.Kids {
		value = r.stat(f, kid)
	}
	f.locals = f.locals[:first]
	return value
}

// place answers where the number of an NName or NItem stands; it is asked for
// behind all that is done ahead.
func (r *run) place(f *frame, n api.Node) func() *int64 {
	if n.Kind == api.NItem {
		index := r.expr(f, n.Kids[0])
		return func() *int64 {
			words := r.vars[f.long(n.Text)]
			if index < 0 || index >= int64(len(words)) {
				panic(ended{})
			}
			return &words[index]
		}
	}
	return func() *int64 {
		for i := len(f.locals) - 1; i >= 0; i-- {
			if f.locals[i].name == n.Text {
				return &f.locals[i].value
			}
		}
		return &r.vars[f.long(n.Text)][0]
	}
}

func (r *run) input(label int64) int64 {
	input := &r.low
	if label == api.High {
		input = &r.high
	}
	if len(*input) == 0 {
		panic(ended{})
	}
	value := (*input)[0]
	*input = (*input)[1:]
	if label == api.Low {
		r.usedLow++
	}
	return value
}

func (r *run) stat(f *frame, n api.Node) int64 {
	r.step()
	switch n.Kind {
	case api.NLocal:
		f.locals = append(f.locals, local{n.Text, r.expr(f, n.Kids[0])})
	case api.NSet:
		place := r.place(f, n.Kids[0])
		value := r.expr(f, n.Kids[1])
		*place() = value
	case api.NDo:
		r.callNode(f, n.Kids[0])
	case api.NIf:
		if r.expr(f, n.Kids[0]) != 0 {
			r.block(f, n.Kids[1])
		} else if len(n.Kids) > 2 {
			r.block(f, n.Kids[2])
		}
	case api.NWhile:
		for r.expr(f, n.Kids[0]) != 0 {
			r.block(f, n.Kids[1])
		}
	case api.NOut:
		if value := r.expr(f, n.Kids[0]); n.Num == api.Low {
			r.outLow = append(r.outLow, value)
		}
	case api.NIn:
		place := r.place(f, n.Kids[0])
		value := r.input(n.Num)
		*place() = value
	case api.NReturn:
		return r.expr(f, n.Kids[0])
	}
	return 0
}

func (r *run) callNode(f *frame, n api.Node) int64 {
	var args []int64
	for _, kid := range n.Kids {
		args = append(args, r.expr(f, kid))
	}
	module, name, _ := strings.Cut(f.long(n.Text), ".")
	return r.call(module, name, args)
}

func (r *run) expr(f *frame, n api.Node) int64 {
	r.step()
	switch n.Kind {
	case api.NNumber:
		return n.Num
	case api.NName, api.NItem:
		return *r.place(f, n)()
	case api.NCall:
		return r.callNode(f, n)
	case api.NNeg:
		return -r.expr(f, n.Kids[0])
	case api.NNot:
		value, _ := num.Op(api.OpSame, r.expr(f, n.Kids[0]), 0)
		return value
	}
	a := r.expr(f, n.Kids[0])
	value, ok := num.Op(int(n.Num), a, r.expr(f, n.Kids[1]))
	if !ok {
		panic(ended{})
	}
	return value
}

// isOpen tells whether a loop asks something high, and calls what Writes Low as
// it asks: by E5 such a call is in the context of the loop, so that it is not
// refused, but how often it is made hangs on something high. Of these E7 does
// not hold; all others are tried.
func (tell *telling) isOpen() bool {
	for _, s := range tell.spots {
		if s.Kind == api.NWhile && tell.label(s.kids[0]) == api.High && tell.callsLow(s.kids[0]) {
			return true
		}
	}
	return false
}

// callsLow tells whether an expression calls a procedure that Writes Low.
func (tell *telling) callsLow(at int) bool {
	s := tell.spots[at]
	if p, _ := tell.procedure(at); s.Kind == api.NCall && p.Writes == api.Low {
		return true
	}
	return slices.ContainsFunc(s.kids, tell.callsLow)
}

func anyInput(r *rand.Rand) []int64 {
	var l []int64
	for range 3 + r.Intn(20) {
		l = append(l, int64(r.Intn(4)))
	}
	return l
}

// isDry tells whether two runs with one input low show nothing of their inputs
// high: what came out low of the one begins with what came out low of the
// other, and is the same, if both are done.
func isDry(one, two *run, areDone bool) bool {
	if areDone && (len(one.outLow) != len(two.outLow) || one.usedLow != two.usedLow) {
		return false
	}
	count := min(len(one.outLow), len(two.outLow))
	return slices.Equal(one.outLow[:count], two.outLow[:count])
}

// tryRuns runs a program twice with one input low, and two inputs high; it
// tells how many numbers came out low in both, and whether both were done.
func tryRuns(t *testing.T, r *rand.Rand, program []api.Node) (count int, areDone bool) {
	t.Helper()
	low, high, other := anyInput(r), anyInput(r), anyInput(r)
	one, isOneDone := start(program, low, high, 1000)
	two, isTwoDone := start(program, low, other, 300+r.Intn(700))
	areDone = isOneDone && isTwoDone
	if !isDry(one, two, areDone) {
		var texts []string
		for _, module := range program {
			text, _ := syntax.Print(module)
			texts = append(texts, text)
		}
		t.Fatalf("%q with %v: %v comes out with %v, %v with %v", texts, low, one.outLow, high, two.outLow, other)
	}
	return min(len(one.outLow), len(two.outLow)), areDone
}

// E7: each of these shows its input high, and is refused for it.
func TestE7Leaks(t *testing.T) {
	begin := "module m;low l;high h;low ls[2];high hs[2];" +
		"proc tell(low x)low{out low x;}proc seven()low gives low{out low 7;return 7;}proc secret()high gives high{return h;}"
	inMain := func(stats string) string {
		return begin + "pub proc main()low{in high h;hs[1]=1;ls[1]=1;" + stats + "}"
	}
	for _, text := range []string{
		inMain("out low h;"), inMain("out low -h;"), inMain("out low !h;"), inMain("out low h+l;"), inMain("out low l<h;"), inMain("out low hs[h];"),
		inMain("out low ls[h];"), inMain("out low ls[ls[h]];"), inMain("out low secret();"), inMain("out low l+secret()*2;"),
		inMain("low x=h;out low x;"), inMain("l=h;out low l;"), inMain("low x=1;x=h;out low x;"), inMain("ls[0]=h;out low ls[0];"), inMain("ls[h]=5;out low ls[0];"),
		inMain("if(h){l=1;}out low l;"), inMain("if(h){}else{l=1;}out low l;"), inMain("low x=1;if(h){x=2;}out low x;"), inMain("if(h){ls[0]=1;}out low ls[0];"),
		inMain("while(h){l=l+1;h=h-1;}out low l;"), inMain("while(h){out low 1;h=h-1;}"),
		inMain("if(h){out low 1;}"), inMain("if(h){if(l==0){out low 1;}}"), inMain("if(l==0){if(h){while(l==0){l=1;}}}out low l;"),
		inMain("if(h){in low h;}"), inMain("if(h){in low l;}in low l;out low l;"), inMain("in high l;out low l;"), inMain("in high ls[0];out low ls[0];"), inMain("in low ls[h];out low ls[0];"),
		inMain("do tell(h);"), inMain("do tell(secret());"), inMain("if(h){do tell(1);}"), inMain("if(h){h=seven();}"), inMain("if(h){do secret();if(seven()){}}"),
		inMain("out low q();") + "proc q()low gives low{return h;}", inMain("out low q(h);") + "proc q(high x)high gives low{return x+1;}",
		inMain("out low q(0);") + "proc q(low x)high gives low{if(h){x=1;}return x;}",
		inMain("if(h){do q();}") + "proc q()high{out low 1;}", inMain("if(h){do q();}out low l;") + "proc q()high{l=1;}", inMain("if(h){do q();}") + "proc q()high{in low h;}",
		inMain("if(h){h=q();}") + "proc q()high gives high{return seven();}", inMain("if(h){do q();}") + "proc q()high{do tell(1);}",
	} {
		module, fault := syntax.Parse(text)
		if fault.Code != api.OK {
			t.Fatalf("%q is no module: %v", text, fault)
		}
		low := []int64{1, 2, 3}
		one, isOneDone := start([]api.Node{module}, low, []int64{0, 2}, 1000)
		two, isTwoDone := start([]api.Node{module}, low, []int64{1, 3}, 1000)
		if !isOneDone || !isTwoDone || isDry(one, two, true) {
			t.Errorf("%q shows nothing high: %v, %v", text, one.outLow, two.outLow)
		}
		if _, fault := Check(text, nil); fault.Code != api.ErrLabel {
			t.Errorf("Check(%q) tells %v, not that something high would come out low", text, fault)
		}
	}
}

// E7: what comes out low of programs that are checked hangs on what came in low alone.
func TestE7(t *testing.T) {
	r := rand.New(rand.NewSource(7))
	seen := map[[2]int]int{}
	programs, shown, done := 0, 0, 0
	for range 150 {
		m := &maker{Rand: r, high: 3 + r.Intn(5)}
		n1 := m.grown(t, "n1", 30, nil, nil, seen)
		known := []api.Face{faceOf(n1)}
		m = &maker{Rand: r, high: 3 + r.Intn(5)}
		main := m.grown(t, "n0", 60, known, known, seen)
		if tellingOf(n1, nil).isOpen() || tellingOf(main, known).isOpen() {
			continue
		}
		programs++
		for range 40 {
			count, areDone := tryRuns(t, r, []api.Node{n1, main})
			if count > 0 {
				shown++
			}
			if areDone && count > 0 {
				done++
			}
		}
	}
	if programs < 100 || shown < 1000 || done < 200 {
		t.Errorf("%d programs, %d runs that show something, %d of them done: too few", programs, shown, done)
	}
}
