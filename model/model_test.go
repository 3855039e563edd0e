package model

import (
	"slices"
	"strconv"
	"strings"
	"testing"

	"dryshod/api"
	"dryshod/num"
	"dryshod/order"
)

// head declares what the statements of most tests use. say shows when it is
// called, and gives what it is given: as an expression it takes five steps,
// and those of its argument.
const head = "module main;low l;high h;low ls[3];high hs[2];low most[64];low one[1];" +
	"proc say(low x)low gives low{out low x;return x;}" +
	"proc both(low x,high y)low{out low x;out high y;}" +
	"proc seven()high gives low{return 7;}" +
	"proc bump()low gives low{l=l+10;return l;}" +
	"proc change(low x)low{x=x+1;l=x;}" +
	"proc sink(low n)low{out low n;if(n<60){do sink(n+1);}}" +
	"proc sum(low n)low gives low{low r=0;if(n){r=n+sum(n-1);}return r;}"

// inMain answers a program whose main does these statements.
func inMain(stats string) []string { return []string{head + "pub proc main()low{" + stats + "}"} }

func isSame(a, b api.Shown) bool {
	return a.End == b.End && slices.Equal(a.Low, b.Low) && slices.Equal(a.High, b.High) &&
		a.UsedLow == b.UsedLow && a.UsedHigh == b.UsedHigh && a.Steps == b.Steps
}

func isBeginning(begin, all []int64) bool {
	return len(begin) <= len(all) && slices.Equal(begin, all[:len(begin)])
}

// tryFuels runs a program with each fuel up to one more than it takes: with
// less it is cut off, having shown a beginning; with more it shows the same.
func tryFuels(t *testing.T, texts []string, low, high []int64, want api.Shown) {
	t.Helper()
	begin := api.Shown{}
	for fuel := 0; fuel <= min(want.Steps+1, api.MaxSteps); fuel++ {
		got, trouble := Run(texts, low, high, fuel)
		if trouble != (api.Trouble{}) {
			t.Fatalf("%q: Run tells %v", texts, trouble)
		}
		if fuel >= want.Steps && want.End != api.EndFuel {
			if !isSame(got, want) {
				t.Fatalf("%q with the fuel %d shows %v; want %v", texts, fuel, got, want)
			}
			continue
		}
		isGrown := isBeginning(begin.Low, got.Low) && isBeginning(got.Low, want.Low) &&
			isBeginning(begin.High, got.High) && isBeginning(got.High, want.High) &&
			begin.UsedLow <= got.UsedLow && got.UsedLow <= want.UsedLow &&
			begin.UsedHigh <= got.UsedHigh && got.UsedHigh <= want.UsedHigh
		if got.End != api.EndFuel || got.Steps != fuel || !isGrown {
			t.Fatalf("%q with the fuel %d shows %v, behind %v; want a beginning of %v", texts, fuel, got, begin, want)
		}
		begin = got
	}
}

// tryRun holds what a program shows with all the fuel that there may be, and
// with less, against what is wanted.
func tryRun(t *testing.T, texts []string, low, high []int64, want api.Shown) {
	t.Helper()
	got, trouble := Run(texts, low, high, api.MaxSteps)
	if trouble != (api.Trouble{}) || !isSame(got, want) {
		t.Errorf("%q with %v and %v shows %v, %v; want %v", texts, low, high, got, trouble, want)
		return
	}
	tryFuels(t, texts, low, high, want)
}

// trial is statements of main, and what they show without inputs.
type trial struct {
	stats string
	end   int
	steps int
	low   []int64
}

func tryAll(t *testing.T, trials ...trial) {
	t.Helper()
	for _, one := range trials {
		tryRun(t, inMain(one.stats), nil, nil, api.Shown{End: one.end, Low: one.low, Steps: one.steps})
	}
}

func l(numbers ...int64) []int64 { return numbers }

func tryTrouble(t *testing.T, texts []string, low, high []int64, fuel int, want api.Trouble) {
	t.Helper()
	if got, trouble := Run(texts, low, high, fuel); trouble != want || !isSame(got, api.Shown{}) {
		t.Errorf("Run(%.200q, %d numbers, %d numbers, %d) = %v, %v; want the trouble %v", texts, len(low), len(high), fuel, got, trouble, want)
	}
}

// G1: fuels that may not be, told ahead of all else.
func TestG1Fuel(t *testing.T) {
	long := make([]int64, api.MaxInput+1)
	for _, fuel := range []int{-1, api.MaxSteps + 1, -1 << 63, 1<<63 - 1, 1 << 32, -1 << 32} {
		want := api.Trouble{Code: api.ErrRange}
		tryTrouble(t, inMain(""), nil, nil, fuel, want)
		tryTrouble(t, inMain(""), long, long, fuel, want)
		tryTrouble(t, nil, nil, nil, fuel, want)
		tryTrouble(t, []string{"module a;", "?"}, long, nil, fuel, want)
	}
	for _, fuel := range []int{0, 1, api.MaxSteps - 1, api.MaxSteps} {
		tryTrouble(t, []string{"?"}, nil, nil, fuel, api.Trouble{Code: api.ErrForm})
		if got, trouble := Run(inMain(""), nil, nil, fuel); trouble != (api.Trouble{}) || !isSame(got, api.Shown{End: api.EndDone}) {
			t.Errorf("with the fuel %d nothing to do shows %v, %v", fuel, got, trouble)
		}
	}
}

// G1: inputs that are too long, told ahead of Order's trouble.
func TestG1Inputs(t *testing.T) {
	most, long, longer := make([]int64, api.MaxInput), make([]int64, api.MaxInput+1), make([]int64, 100000)
	want := api.Trouble{Code: api.ErrSize}
	for _, texts := range [][]string{inMain(""), {"module a;", "?"}, nil} {
		tryTrouble(t, texts, long, nil, 0, want)
		tryTrouble(t, texts, nil, long, api.MaxSteps, want)
		tryTrouble(t, texts, most, long, 0, want)
		tryTrouble(t, texts, longer, longer, 0, want)
	}
	tryTrouble(t, []string{"module a;", "?"}, most, most, 0, api.Trouble{Module: 1, Code: api.ErrForm})
	// Of inputs that are as long as they may be as much is there as can be taken: the loop begins two steps for a number.
	loops := inMain("in low l;while(1){in low l;}")
	tryRun(t, loops, most, most, api.Shown{End: api.EndFuel, UsedLow: 500, Steps: api.MaxSteps})
}

// G1: Order's trouble, of any of its kinds.
func TestG1Order(t *testing.T) {
	for _, texts := range [][]string{
		nil, {}, slices.Repeat(inMain(""), api.MaxModules+1), {"?"}, {"module main;", "module a;low x[65];"}, {"module a;", "module a;"},
		{"module main;import a;"}, {"module b;", "module main;import a;", "module a;import main;"}, {"module a;"}, {"module main;proc main()low{}"},
		{"module main;pub proc main(low x)low{}"}, {"module main;pub proc main()high{}"}, {"module main;pub proc main()low gives low{return 1;}"},
		inMain("l=h;"), inMain("l=z;"), inMain("l=ls;"), inMain("do say();"), inMain("low x=1;low x=2;"), inMain("return 1;"),
		{"module a;import main;proc p()low{main.x=1;}", "module main;pub high x;pub proc main()low{out low x;}"},
	} {
		_, want := order.Order(texts)
		if want.Code == api.OK {
			t.Fatalf("Order has no trouble with %q", texts)
		}
		tryTrouble(t, texts, nil, nil, api.MaxSteps, want)
		tryTrouble(t, texts, l(1), l(2), 0, want)
	}
}

// G1: main of main is called, wherever its text stands, and no other procedure.
func TestG1Main(t *testing.T) {
	other := "module a;pub proc main()low{out low 1;}proc p()low{out low 2;}"
	main := "module main;proc p()low{out low 3;}pub proc main()low{out low 4;}proc q()low{out low 5;}"
	want := api.Shown{End: api.EndDone, Low: l(4), Steps: 2}
	tryRun(t, []string{main}, nil, nil, want)
	tryRun(t, []string{other, main}, nil, nil, want)
	tryRun(t, []string{main, other}, nil, nil, want)
	calls := "module main;import a;pub proc main()low{do a.main();out low 4;}"
	tryRun(t, []string{calls, other}, nil, nil, api.Shown{End: api.EndDone, Low: l(1, 4), Steps: 5})
}

// G1: which nodes are steps, and which are none.
func TestG1Steps(t *testing.T) {
	tryAll(t,
		trial{"", api.EndDone, 0, nil},
		trial{"l=1;", api.EndDone, 2, nil},
		trial{"ls[0]=1;", api.EndDone, 3, nil},
		trial{"ls[l+1]=l;", api.EndDone, 5, nil},
		trial{"ls[ls[0]]=1;", api.EndDone, 4, nil},
		trial{"low x=1;", api.EndDone, 2, nil},
		trial{"low x=-!1;", api.EndDone, 4, nil},
		trial{"out low (((1)));", api.EndDone, 2, l(1)},
		trial{"out low ls[ls[1]];", api.EndDone, 4, l(0)},
		trial{"do seven();", api.EndDone, 3, nil},
		trial{"do say(1);", api.EndDone, 6, l(1)},
		trial{"l=seven();", api.EndDone, 4, nil},
		trial{"l=say(say(2));", api.EndDone, 12, l(2, 2)},
		trial{"if(1){}", api.EndDone, 2, nil},
		trial{"if(0){l=1;}", api.EndDone, 2, nil},
		trial{"if(0){l=1;}else{}", api.EndDone, 2, nil},
		trial{"if(0){}else{l=1;}", api.EndDone, 4, nil},
		trial{"if(1){l=1;}else{l=1;l=1;}", api.EndDone, 4, nil},
		trial{"while(0){l=1;}", api.EndDone, 2, nil},
		trial{"l=2;while(l){l=l-1;}", api.EndDone, 14, nil},
		trial{"while(1){}", api.EndFuel, api.MaxSteps, nil},
		trial{"while(1){if(1){}while(0){}}", api.EndFuel, api.MaxSteps, nil},
		trial{"in low l;", api.EndInput, 1, nil},
		trial{"in low ls[0];", api.EndInput, 2, nil},
		trial{"in low ls[l-1];", api.EndInput, 4, nil},
		trial{"out low 1/0;", api.EndDivided, 4, nil},
		trial{"out low ls[3];", api.EndIndex, 3, nil},
	)
}

// G1: the step behind the last one that there is fuel for is not begun.
func TestG1FuelEnds(t *testing.T) {
	texts := inMain("out low 1;out high 2;in low l;in high h;do both(3,4);")
	// Which steps: out, 1, out, 2, in, in, do, 3, 4, and in both out, x, out, y.
	for fuel, want := range []api.Shown{
		{}, {}, {Low: l(1)}, {Low: l(1)}, {Low: l(1), High: l(2)},
		{Low: l(1), High: l(2), UsedLow: 1}, {Low: l(1), High: l(2), UsedLow: 1, UsedHigh: 1},
		{Low: l(1), High: l(2), UsedLow: 1, UsedHigh: 1}, {Low: l(1), High: l(2), UsedLow: 1, UsedHigh: 1},
		{Low: l(1), High: l(2), UsedLow: 1, UsedHigh: 1}, {Low: l(1), High: l(2), UsedLow: 1, UsedHigh: 1},
		{Low: l(1, 3), High: l(2), UsedLow: 1, UsedHigh: 1}, {Low: l(1, 3), High: l(2), UsedLow: 1, UsedHigh: 1},
		{End: api.EndDone, Low: l(1, 3), High: l(2, 4), UsedLow: 1, UsedHigh: 1},
	} {
		want.Steps = fuel
		if got, trouble := Run(texts, l(5, 6), l(7, 8), fuel); trouble != (api.Trouble{}) || !isSame(got, want) {
			t.Errorf("with the fuel %d: %v, %v; want %v", fuel, got, trouble, want)
		}
	}
}

// G2: numbers, of 64 bits.
func TestG2Numbers(t *testing.T) {
	const most, least = 1<<63 - 1, -1 << 63
	tryAll(t,
		trial{"out low 0;", api.EndDone, 2, l(0)},
		trial{"out low 9223372036854775807;", api.EndDone, 2, l(most)},
		trial{"out low 9223372036854775807+1;", api.EndDone, 4, l(least)},
		trial{"out low -9223372036854775807-1;", api.EndDone, 5, l(least)},
		trial{"out low -(-9223372036854775807-1);", api.EndDone, 6, l(least)},
		trial{"out low -0;out low --3;out low ---3;", api.EndDone, 12, l(0, 3, -3)},
		trial{"out low !0;out low !1;out low !-1;out low !!5;", api.EndDone, 14, l(1, 0, 0, 1)},
		trial{"out low !4294967296;", api.EndDone, 3, l(0)},
		trial{"l=9223372036854775807;ls[1]=l;low x=ls[1];out low say(x);", api.EndDone, 15, l(most, most)},
	)
}

// written answers an expression of that number.
func written(number int64) string {
	if number == -1<<63 {
		return "(-9223372036854775807-1)"
	}
	return strings.Replace(strconv.FormatInt(number, 10), "-", "0-", 1)
}

// G2: NOp is num.Op of the first and the second kid.
func TestG2Ops(t *testing.T) {
	edges := []int64{0, 1, 2, 7, -1, -2, -7, 1 << 32, 1<<63 - 1, -1 << 63}
	for op, sign := range []string{api.OpAdd: "+", api.OpSub: "-", api.OpMul: "*", api.OpDiv: "/", api.OpMod: "%", api.OpAnd: "&", api.OpOr: "|", api.OpLess: "<", api.OpSame: "=="} {
		if sign == "" {
			continue
		}
		for _, a := range edges {
			for _, b := range edges {
				texts := inMain("low a=" + written(a) + ";low b=" + written(b) + ";out low a" + sign + "b;out low 5;")
				got, trouble := Run(texts, nil, nil, 100)
				value, ok := num.Op(op, a, b)
				want := api.Shown{End: api.EndDone, Low: l(value, 5)}
				if !ok {
					want = api.Shown{End: api.EndDivided}
				}
				want.Steps = got.Steps
				if trouble != (api.Trouble{}) || !isSame(got, want) {
					t.Errorf("%d %s %d: %v, %v; want %v", a, sign, b, got, trouble, want)
				}
			}
		}
	}
}

// G2: variables and words are at first 0, and each is one of its own.
func TestG2Variables(t *testing.T) {
	tryAll(t,
		trial{"out low l;out low ls[0];out low ls[2];out low most[63];out low one[0];", api.EndDone, 14, l(0, 0, 0, 0, 0)},
		trial{"ls[0]=1;ls[1]=2;ls[2]=3;one[0]=4;l=5;out low (ls[0]*10+ls[1])*10+ls[2];out low one[0];out low l;", api.EndDone, 32, l(123, 4, 5)},
		trial{"most[63]=1;most[0]=2;out low most[63];out low most[0];out low most[62];", api.EndDone, 15, l(1, 2, 0)},
		trial{"l=1;l=l+l;l=l+l;out low l;", api.EndDone, 12, l(4)},
	)
	tryRun(t, inMain("h=3;hs[1]=h;out high hs[1];out high hs[0];out high h;"), nil, nil, api.Shown{End: api.EndDone, High: l(3, 0, 3), Steps: 13})
}

// G2: words that an array has not.
func TestG2Index(t *testing.T) {
	for _, place := range []string{"ls[%]", "most[%]", "one[%]"} {
		size := map[string]int64{"ls[%]": 3, "most[%]": 64, "one[%]": 1}[place]
		for _, index := range []int64{-1 << 63, -1 << 32, -1, 0, size - 1, size, size + 1, 1 << 32, 1<<63 - 1} {
			word := strings.Replace(place, "%", "i", 1)
			begin := "low i=" + written(index) + ";"
			for _, stats := range []string{begin + "out low " + word + ";out low 8;", begin + word + "=0;out low 0;out low 8;", begin + "in low " + word + ";out low 0;out low 8;"} {
				got, trouble := Run(inMain(stats), l(0), nil, 100)
				want := api.Shown{End: api.EndIndex}
				if index >= 0 && index < size {
					want = api.Shown{End: api.EndDone, Low: l(0, 8)}
				}
				if trouble != (api.Trouble{}) || got.End != want.End || !slices.Equal(got.Low, want.Low) {
					t.Errorf("%q: %v, %v; want %v", stats, got, trouble, want)
				}
			}
		}
	}
	tryRun(t, inMain("out high hs[h+1];out high hs[h+2];"), nil, nil, api.Shown{End: api.EndIndex, High: l(0), Steps: 10})
}

// G2: kids are done in order, each ahead of the node itself.
func TestG2InOrder(t *testing.T) {
	tryAll(t,
		trial{"out low say(1)-say(2);", api.EndDone, 14, l(1, 2, -1)},
		trial{"out low say(1)/(say(2)-say(2));", api.EndDivided, 21, l(1, 2, 2)},
		trial{"out low say(1)%say(0);out low 5;", api.EndDivided, 14, l(1, 0)},
		trial{"out low l+bump();out low bump()+l;", api.EndDone, 20, l(10, 40)},
		trial{"ls[l]=bump();out low ls[0];", api.EndDone, 12, l(10)},
		trial{"ls[say(1)]=say(2);out low ls[1];", api.EndDone, 16, l(1, 2, 2)},
		trial{"ls[3]=say(5);", api.EndIndex, 8, l(5)},
		trial{"ls[say(3)]=say(4);out low 5;", api.EndIndex, 13, l(3, 4)},
		trial{"ls[3]=1/0;", api.EndDivided, 5, nil},
		trial{"ls[1/0]=say(1);", api.EndDivided, 4, nil},
		trial{"out low ls[say(3)];", api.EndIndex, 8, l(3)},
		trial{"out low -say(1)+!say(0);", api.EndDone, 16, l(1, 0, 0)},
		trial{"low x=say(1)+say(2);out low x;", api.EndDone, 16, l(1, 2, 3)},
		trial{"if(say(0)){out low 1;}else{out low 2;}", api.EndDone, 9, l(0, 2)},
	)
	tryRun(t, inMain("do both(say(1),say(2));"), nil, nil, api.Shown{End: api.EndDone, Low: l(1, 2, 1), High: l(2), Steps: 17})
}

// G2: what a call is given, does, and gives.
func TestG2Calls(t *testing.T) {
	tryAll(t,
		trial{"out low seven()*seven();", api.EndDone, 8, l(49)},
		trial{"low x=5;do change(x);out low x;out low l;", api.EndDone, 14, l(5, 6)},
		trial{"do change(1);do change(l);out low l;", api.EndDone, 18, l(3)},
		trial{"out low sum(4);", api.EndDone, 61, l(10)},
		trial{"low say=3;out low say(say);", api.EndDone, 9, l(3, 3)},
		trial{"do bump();do bump();out low l;", api.EndDone, 16, l(20)},
		trial{"out low say(say(say(1)+1)+1);", api.EndDone, 21, l(1, 2, 3, 3)},
	)
	five := []string{"module main;proc p(low a,high b,low c,high d,low e)low gives low{out low a;out high b;out low c;out high d;return e;}" +
		"pub proc main()low{out low p(1,2,3,4,5);}"}
	tryRun(t, five, nil, nil, api.Shown{End: api.EndDone, Low: l(1, 3, 5), High: l(2, 4), Steps: 17})
}

// rising answers the numbers from first to last.
func rising(first, last int64) []int64 {
	var all []int64
	for n := first; n <= last; n++ {
		all = append(all, n)
	}
	return all
}

// G2: how many calls, main's among them, may not have come back.
func TestG2Deep(t *testing.T) {
	tryAll(t,
		trial{"do sink(1);", api.EndDeep, 2 + 29*10, rising(1, 29)},
		trial{"do sink(31);", api.EndDeep, 2 + 29*10, rising(31, 59)},
		trial{"do sink(32);out low 5;", api.EndDone, 2 + 28*10 + 6 + 2, append(rising(32, 60), 5)},
		trial{"out low sum(28);", api.EndDone, 3 + 28*13 + 6, l(406)},
		trial{"out low sum(29);", api.EndDeep, 3 + 29*11, nil},
		// Calls that have come back are not counted.
		trial{"l=50;while(l){do seven();l=l-1;}", api.EndDone, 404, nil},
		trial{"out low sum(15)+sum(15);", api.EndDone, 408, l(240)},
		trial{"do sum(28);do sum(28);", api.EndDone, 744, nil},
	)
	// The kids are done ahead of the call that is one too many.
	fall := func(depth string) []string {
		return []string{"module main;proc fall(low n)low{do fall(n+1+0/(" + depth + "-n));}pub proc main()low{do fall(1);}"}
	}
	tryRun(t, fall("29"), nil, nil, api.Shown{End: api.EndDivided, Steps: 2 + 29*10})
	tryRun(t, fall("30"), nil, nil, api.Shown{End: api.EndDeep, Steps: 2 + 29*10})
	// It is one too many also where it would do nothing.
	empty := func(depth string) []string {
		return []string{"module main;proc empty()low{}proc go(low n)low{if(n){do go(n-1);}else{do empty();}}pub proc main()low{do go(" + depth + ");}"}
	}
	tryRun(t, empty("27"), nil, nil, api.Shown{End: api.EndDone, Steps: 2 + 27*6 + 3})
	tryRun(t, empty("28"), nil, nil, api.Shown{End: api.EndDeep, Steps: 2 + 28*6 + 3})
	tryRun(t, []string{"module main;pub proc main()low{do main();}"}, nil, nil, api.Shown{End: api.EndDeep, Steps: api.MaxCalls})
}

// G2: an NLocal makes a new local, of its block alone.
func TestG2Locals(t *testing.T) {
	tryAll(t,
		trial{"low x=1;if(1){low x=2;out low x;x=3;out low x;}out low x;", api.EndDone, 14, l(2, 3, 1)},
		trial{"low x=1;if(1){x=2;if(1){low x=3;x=4;}}out low x;", api.EndDone, 14, l(2)},
		trial{"low x=1;if(1){low x=x+1;out low x;}out low x;", api.EndDone, 12, l(2, 1)},
		trial{"if(0){}else{low l=3;out low l;}out low l;", api.EndDone, 8, l(3, 0)},
		trial{"low l=5;out low l;l=6;out low bump();out low l;", api.EndDone, 16, l(5, 10, 6)},
		trial{"low l=l+1;out low l;", api.EndDone, 6, l(1)},
		trial{"l=4;if(1){out low l;low l=2;out low l;}out low l;", api.EndDone, 12, l(4, 2, 4)},
		trial{"low n=3;while(n){low x=n;out low x;x=9;n=n-1;}", api.EndDone, 3 + 3*11 + 1, l(3, 2, 1)},
		trial{"low n=100;while(n){low x=n;n=n-1;}", api.EndDone, 3 + 100*7 + 1, nil},
		trial{"high x=0;high y=x+1;if(y){high x=2;y=x;}", api.EndDone, 12, nil},
	)
	var stats, outs string
	for i := range api.MaxLocals {
		name := "x" + strconv.Itoa(i)
		stats += "low " + name + "=" + strconv.Itoa(i) + ";"
		outs += "out low " + name + ";"
	}
	tryRun(t, inMain(stats+outs), nil, nil, api.Shown{End: api.EndDone, Low: rising(0, api.MaxLocals-1), Steps: 4 * api.MaxLocals})
	// A parameter is a local, too, and can be hidden.
	hides := []string{"module main;proc p(low x,low y)low{if(x){low y=x;out low y;y=3;}out low y;y=7;out low y;}pub proc main()low{do p(1,2);do p(0,2);}"}
	tryRun(t, hides, nil, nil, api.Shown{End: api.EndDone, Low: l(1, 2, 7, 2, 7), Steps: 28})
}

// G2: what is not 0 is taken for true.
func TestG2Branches(t *testing.T) {
	for _, asked := range []int64{0, 1, 2, -1, 256, 1 << 32, 1<<63 - 1, -1 << 63} {
		text := "l=" + written(asked) + ";if(l){out low 1;}else{out low 2;}if(l){out low 3;}while(l){out low 4;l=0;}out low 5;"
		want := l(1, 3, 4, 5)
		if asked == 0 {
			want = l(2, 5)
		}
		got, trouble := Run(inMain(text), nil, nil, 100)
		if trouble != (api.Trouble{}) || got.End != api.EndDone || !slices.Equal(got.Low, want) {
			t.Errorf("%q: %v, %v; want %v", text, got, trouble, want)
		}
	}
	tryAll(t,
		trial{"l=3;while(l){out low l;l=l-1;}out low l;", api.EndDone, 27, l(3, 2, 1, 0)},
		trial{"while(say(l<2)){l=l+1;}out low l;", api.EndDone, 1 + 3*8 + 2*4 + 2, l(1, 1, 0, 2)},
		trial{"if(1){if(0){out low 1;}else{if(1){out low 2;}}}", api.EndDone, 8, l(2)},
		trial{"low n=2;while(n){low m=2;while(m){out low n*10+m;m=m-1;}n=n-1;}", api.EndDone, 3 + 2*(1+2+1+2*11+1+4) + 1, l(22, 21, 12, 11)},
	)
}

// G2, G3: what comes in and out.
func TestG2Inputs(t *testing.T) {
	const most, least = 1<<63 - 1, -1 << 63
	for _, one := range []struct {
		stats     string
		low, high []int64
		want      api.Shown
	}{
		{"in low l;in high h;in low ls[2];out low l;out low ls[2];out high h;", l(5, 6), l(7), api.Shown{End: api.EndDone, Low: l(5, 6), High: l(7), UsedLow: 2, UsedHigh: 1, Steps: 11}},
		{"in low l;in high h;", l(5, 6, 7), l(8, 9), api.Shown{End: api.EndDone, UsedLow: 1, UsedHigh: 1, Steps: 2}},
		{"in low h;out high h;", l(5), l(7), api.Shown{End: api.EndDone, High: l(5), UsedLow: 1, Steps: 3}},
		{"in high h;in high hs[0];in high hs[h-7];out high hs[0];out high hs[1];", nil, l(8, 2, 3), api.Shown{End: api.EndDone, High: l(2, 3), UsedHigh: 3, Steps: 13}},
		{"in low l;in low l;in low l;", l(5, 6), l(1, 2, 3), api.Shown{End: api.EndInput, UsedLow: 2, Steps: 3}},
		{"in low l;in high h;out low 1;", l(5, 6), nil, api.Shown{End: api.EndInput, UsedLow: 1, Steps: 2}},
		{"in high h;in low l;out low 1;", nil, l(5, 6), api.Shown{End: api.EndInput, UsedHigh: 1, Steps: 2}},
		{"in low l;out low l;in low l;out low l;", l(most, least), nil, api.Shown{End: api.EndDone, Low: l(most, least), UsedLow: 2, Steps: 6}},
		{"low x=1;in low x;out low x;if(1){low x=2;in low x;out low x;}out low x;", l(3, 4), nil, api.Shown{End: api.EndDone, Low: l(3, 4, 3), UsedLow: 2, Steps: 14}},
		// The kid is done ahead of the number; whether there is such a word is asked behind it.
		{"in low ls[say(1)];", nil, nil, api.Shown{End: api.EndInput, Low: l(1), Steps: 7}},
		{"in low ls[say(3)];", nil, l(1), api.Shown{End: api.EndInput, Low: l(3), Steps: 7}},
		{"in low ls[3];out low 1;", l(5, 6), nil, api.Shown{End: api.EndIndex, UsedLow: 1, Steps: 2}},
		{"in low ls[-1];", l(5), nil, api.Shown{End: api.EndIndex, UsedLow: 1, Steps: 3}},
		{"in high hs[2];", l(5), l(6, 7), api.Shown{End: api.EndIndex, UsedHigh: 1, Steps: 2}},
		{"in low ls[1/0];", l(5), nil, api.Shown{End: api.EndDivided, Steps: 4}},
		{"in low ls[bump()-l];out low ls[0];", l(5), nil, api.Shown{End: api.EndDone, Low: l(5), UsedLow: 1, Steps: 13}},
		// Both outputs are in order, each apart.
		{"out high 1;out low 2;out high 3;out low 4;", nil, nil, api.Shown{End: api.EndDone, Low: l(2, 4), High: l(1, 3), Steps: 8}},
		{"in high h;if(h){out high 1;}out low 2;", nil, l(5), api.Shown{End: api.EndDone, Low: l(2), High: l(1), UsedHigh: 1, Steps: 7}},
	} {
		tryRun(t, inMain(one.stats), one.low, one.high, one.want)
	}
}

// G2: a module's variables are there once, whoever asks for them, and names mean what they mean in their own module.
func TestG2Modules(t *testing.T) {
	a := "module a;pub low x;pub low xs[2];low own;pub high h;pub proc add(low x)low gives low{own=own+x;return own;}pub proc get()high gives low{return x;}"
	b := "module b;import a;low own;low x;pub proc add(low n)low{own=own+n;x=a.add(n);a.x=a.x+x;}"
	try := func(stats string, low []int64, want api.Shown) {
		t.Helper()
		main := "module main;import b;import a;low x;low own;pub proc main()low{" + stats + "}proc get()low gives low{return own;}"
		for _, texts := range [][]string{{main, a, b}, {a, b, main}, {b, main, a}} {
			tryRun(t, texts, low, nil, want)
		}
	}
	try("do b.add(2);do b.add(3);out low a.add(0);out low a.x;out low x;out low own;out low get();out low a.get();", nil,
		api.Shown{End: api.EndDone, Low: l(5, 7, 0, 0, 0, 7), Steps: 61})
	try("x=1;a.x=2;a.xs[1]=3;low x=4;out low x;out low a.x;out low a.get();out low a.xs[1];out low a.xs[0];a.xs[2]=1;", nil,
		api.Shown{End: api.EndIndex, Low: l(4, 2, 2, 3, 0), Steps: 26})
	try("in low a.x;in low a.xs[a.x];out low a.xs[1];a.h=a.x;out high a.h;in low a.xs[a.x+1];", l(1, 6, 7),
		api.Shown{End: api.EndIndex, Low: l(6), High: l(1), UsedLow: 3, Steps: 14})
}

// G3: each run begins anew, and shows what the example of the chapter shows.
func TestG3(t *testing.T) {
	example := []string{"module main;pub proc main()low{high x=0;in high x;if(x){out high 1;}out low 2;}"}
	for range 3 {
		tryRun(t, example, nil, l(5), api.Shown{End: api.EndDone, Low: l(2), High: l(1), UsedHigh: 1, Steps: 9})
		tryRun(t, example, nil, l(0), api.Shown{End: api.EndDone, Low: l(2), UsedHigh: 1, Steps: 7})
		tryRun(t, example, nil, nil, api.Shown{End: api.EndInput, Steps: 3})
		tryAll(t, trial{"l=l+1;ls[l]=ls[l]+1;out low l;out low ls[1];", api.EndDone, 15, l(1, 1)})
	}
}

// P3: what is handed in is not changed, nor what lies behind it read; what comes out is new.
func TestP3(t *testing.T) {
	texts := inMain("in low l;in high h;out low l;out high h;out low 1;out high 2;in low l;out low 3;")
	low, high := l(5, 6, 7), l(8, 9)
	got, _ := Run(texts, low[:1], high[:1], 100)
	want := api.Shown{End: api.EndInput, Low: l(5, 1), High: l(8, 2), UsedLow: 1, UsedHigh: 1, Steps: 11}
	if !isSame(got, want) {
		t.Fatalf("%v is shown; want %v", got, want)
	}
	if !slices.Equal(low, l(5, 6, 7)) || !slices.Equal(high, l(8, 9)) {
		t.Errorf("the inputs have become %v and %v", low, high)
	}
	again, _ := Run(texts, low[:1], high[:1], 100)
	for i := range low {
		low[i] = 0
	}
	for _, list := range [][]int64{got.Low, got.High} {
		for i := range list[:cap(list)] {
			list[:cap(list)][i] = 99
		}
	}
	if !slices.Equal(got.Low, l(99, 99)) || !slices.Equal(high, l(8, 9)) || !isSame(again, want) {
		t.Errorf("memory is shared: %v, %v, %v", got, again, high)
	}
}
