package machine

import (
	"slices"
	"strconv"
	"testing"

	"dryshod/api"
	"dryshod/num"
)

const (
	most  = 1<<63 - 1
	least = -1 << 63
)

func isSame(a, b api.Shown) bool {
	return a.End == b.End && slices.Equal(a.Low, b.Low) && slices.Equal(a.High, b.High) &&
		a.UsedLow == b.UsedLow && a.UsedHigh == b.UsedHigh && a.Steps == b.Steps
}

func isBeginning(begin, all []int64) bool {
	return len(begin) <= len(all) && slices.Equal(begin, all[:len(begin)])
}

func l(numbers ...int64) []int64 { return numbers }

// mustRun runs an image that may be, with inputs and a fuel that may be.
func mustRun(t *testing.T, m api.Image, low, high []int64, fuel int) (api.Shown, [][]int64) {
	t.Helper()
	shown, words, code := Run(m, low, high, fuel)
	if code != api.OK || len(words) != 2 || len(words[0]) != m.Low || len(words[1]) != m.High {
		t.Fatalf("Run of %.300v with the fuel %d = %v, %.200v, %v", m, fuel, shown, words, code)
	}
	return shown, words
}

// H4: with less fuel than it takes, a run is cut off, having shown a
// beginning of what it shows with a step more; with more it ends alike.
func tryFuels(t *testing.T, m api.Image, low, high []int64, want api.Shown, last [][]int64) {
	t.Helper()
	begin := api.Shown{}
	for fuel := 0; fuel <= want.Steps+2; fuel++ {
		got, words := mustRun(t, m, low, high, fuel)
		if fuel >= want.Steps {
			if !isSame(got, want) || !slices.Equal(words[0], last[0]) || !slices.Equal(words[1], last[1]) {
				t.Fatalf("%v with the fuel %d shows %v, %v; want %v, %v", m, fuel, got, words, want, last)
			}
			continue
		}
		isGrown := isBeginning(begin.Low, got.Low) && isBeginning(got.Low, want.Low) &&
			isBeginning(begin.High, got.High) && isBeginning(got.High, want.High) &&
			begin.UsedLow <= got.UsedLow && got.UsedLow <= want.UsedLow &&
			begin.UsedHigh <= got.UsedHigh && got.UsedHigh <= want.UsedHigh
		if got.End != api.EndFuel || got.Steps != fuel || !isGrown {
			t.Fatalf("%v with the fuel %d shows %v, behind %v; want a beginning of %v", m, fuel, got, begin, want)
		}
		begin = got
	}
}

// trial is orders, for three low words and two high ones, and what they show
// with the inputs low 5, 6 and high 7. Words at its end that are 0 may be left
// out behind the others.
type trial struct {
	text      string
	end       int
	steps     int
	low, high []int64
	words     [2][]int64
	used      [2]int
}

func (one trial) try(t *testing.T) {
	t.Helper()
	m := api.Image{Code: orders(t, one.text), Low: 3, High: 2}
	want := api.Shown{End: one.end, Steps: one.steps, Low: one.low, High: one.high, UsedLow: one.used[0], UsedHigh: one.used[1]}
	last := [][]int64{make([]int64, 3), make([]int64, 2)}
	copy(last[0], one.words[0])
	copy(last[1], one.words[1])
	got, words := mustRun(t, m, l(5, 6), l(7), api.MaxFuel)
	if !isSame(got, want) || !slices.Equal(words[0], last[0]) || !slices.Equal(words[1], last[1]) {
		t.Errorf("%q shows %v, %v; want %v, %v", one.text, got, words, want, last)
		return
	}
	tryFuels(t, m, l(5, 6), l(7), want, last)
}

func tryAll(t *testing.T, trials ...trial) {
	t.Helper()
	for _, one := range trials {
		one.try(t)
	}
}

// H2: ISet, IMove, IAdd.
func TestH2Registers(t *testing.T) {
	tryAll(t,
		trial{text: "set 1 7;outlow 1;halt", end: api.EndDone, steps: 3, low: l(7)},
		trial{text: "set 0 9223372036854775807;outlow 0;set 0 -9223372036854775808;outlow 0;set 0 0;outlow 0;halt", end: api.EndDone, steps: 7, low: l(most, least, 0)},
		trial{text: "set 1 7;move 2 1;set 1 8;outlow 2;outlow 1;move 1 2;outlow 1;halt", end: api.EndDone, steps: 8, low: l(7, 8, 7)},
		trial{text: "set 1 7;plus 2 1 3;outlow 2;outlow 1;plus 1 1 -9;outlow 1;plus 1 1 0;outlow 1;halt", end: api.EndDone, steps: 9, low: l(10, 7, -2, -2)},
		trial{text: "set 1 9223372036854775807;plus 1 1 1;outlow 1;plus 1 1 -1;outlow 1;plus 1 1 9223372036854775807;outlow 1;halt", end: api.EndDone, steps: 8, low: l(least, most, -2)},
		trial{text: "set 1 -9223372036854775808;plus 2 1 -9223372036854775808;outlow 2;halt", end: api.EndDone, steps: 4, low: l(0)},
	)
	// At first all are 0, and each is one of its own.
	var zeros, sets, outs string
	for i := range api.Regs {
		number := strconv.Itoa(i)
		zeros += "outhigh " + number + ";"
		sets += "set " + number + " 1" + number + ";"
		outs += "outlow " + number + ";"
	}
	trial{text: zeros + sets + outs + "halt", end: api.EndDone, steps: 3*api.Regs + 1, high: make([]int64, api.Regs), low: l(10, 11, 12, 13, 14, 15, 16, 17)}.try(t)
}

// H2: loads and puts.
func TestH2Words(t *testing.T) {
	tryAll(t,
		trial{text: "loadlow 1 0 0;outlow 1;loadlow 1 0 2;outlow 1;loadhigh 1 0 0;outlow 1;loadhigh 1 0 1;outlow 1;halt", end: api.EndDone, steps: 9, low: l(0, 0, 0, 0)},
		trial{text: "set 1 7;putlow 1 0 2;set 1 8;puthigh 1 0 1;set 1 9;putlow 1 0 0;halt", end: api.EndDone, steps: 7, words: [2][]int64{{9, 0, 7}, {0, 8}}},
		trial{text: "set 1 7;putlow 1 0 1;puthigh 0 0 1;loadlow 2 0 1;outlow 2;loadhigh 2 0 1;outlow 2;halt", end: api.EndDone, steps: 8, low: l(7, 0), words: [2][]int64{{0, 7}, {}}},
		trial{text: "set 1 7;puthigh 1 0 1;putlow 0 0 1;loadhigh 2 0 1;outhigh 2;loadlow 2 0 1;outhigh 2;halt", end: api.EndDone, steps: 8, high: l(7, 0), words: [2][]int64{{}, {0, 7}}},
		// The register and N together say where.
		trial{text: "set 3 5;set 1 2;putlow 3 1 0;putlow 1 1 -1;putlow 1 1 -2;loadlow 4 1 -1;outlow 4;halt", end: api.EndDone, steps: 8, low: l(2), words: [2][]int64{{2, 2, 5}, {}}},
		trial{text: "set 3 5;set 1 -1;puthigh 3 1 2;puthigh 1 1 1;loadhigh 4 1 2;outlow 4;halt", end: api.EndDone, steps: 7, low: l(5), words: [2][]int64{{}, {-1, 5}}},
		trial{text: "set 1 1;puthigh 1 1 0;set 1 0;loadhigh 1 1 1;outlow 1;loadhigh 1 1 -1;outlow 1;halt", end: api.EndDone, steps: 8, low: l(1, 0), words: [2][]int64{{}, {0, 1}}},
		// What is beyond 64 bits is lost, and the word may be there.
		trial{text: "set 1 -9223372036854775808;set 2 4;putlow 2 1 -9223372036854775808;set 1 9223372036854775807;puthigh 2 1 -9223372036854775806;halt", end: api.EndDone, steps: 6, words: [2][]int64{{4}, {0, 4}}},
		trial{text: "set 1 9223372036854775807;plus 1 1 9223372036854775807;loadlow 3 1 3;loadlow 3 1 5;halt", end: api.EndWrong, steps: 4},
	)
	for _, order := range []struct {
		name  string
		count int64
	}{{"loadlow", 3}, {"putlow", 3}, {"loadhigh", 2}, {"puthigh", 2}} {
		for _, at := range []int64{least, -1 << 32, -2, -1, 0, 1, 2, 3, 4, 1 << 32, most} {
			for _, base := range []int64{0, at, least, most, 1, -1} {
				text := "set 1 " + strconv.FormatInt(base, 10) + ";" + order.name + " 0 1 " + strconv.FormatInt(at-base, 10) + ";outlow 1"
				one := trial{text: text, end: api.EndWrong, steps: 2}
				if at >= 0 && at < order.count {
					one.steps, one.low = 3, l(base)
				}
				one.try(t)
			}
		}
	}
}

// H2: a memory without words has none, one with as many as may be has all of them.
func TestH2Memories(t *testing.T) {
	code := orders(t, "set 1 3;putlow 1 0 19999;puthigh 1 0 19999;loadlow 2 0 19999;outlow 2;loadhigh 2 0 19999;outhigh 2;halt")
	for _, one := range []struct{ low, high, end, steps int }{
		{api.MaxWords, api.MaxWords, api.EndDone, 8}, {api.MaxWords - 1, api.MaxWords, api.EndWrong, 2}, {api.MaxWords, api.MaxWords - 1, api.EndWrong, 3},
		{0, api.MaxWords, api.EndWrong, 2}, {api.MaxWords, 0, api.EndWrong, 3}, {0, 0, api.EndWrong, 2},
	} {
		got, words := mustRun(t, api.Image{Code: code, Low: one.low, High: one.high}, nil, nil, 100)
		if got.End != one.end || got.Steps != one.steps {
			t.Errorf("with %d and %d words %v is shown", one.low, one.high, got)
		}
		if got.End == api.EndDone && (words[0][19999] != 3 || words[1][19999] != 3 || slices.Max(words[0][:19999]) != 0 || slices.Min(words[1][:19999]) != 0) {
			t.Errorf("the words are not as they were put")
		}
	}
	empty := api.Image{Code: orders(t, "halt")}
	tryFuels(t, empty, nil, nil, api.Shown{End: api.EndDone, Steps: 1}, make([][]int64, 2))
}

// H2: IJump and IZero.
func TestH2Jumps(t *testing.T) {
	tryAll(t,
		trial{text: "jump 2;halt;outlow 0;jump 1", end: api.EndDone, steps: 4, low: l(0)},
		trial{text: "zero 1 2;halt;outlow 1;set 1 4;zero 1 0;outlow 1;halt", end: api.EndDone, steps: 6, low: l(0, 4)},
		trial{text: "set 1 3;zero 1 5;outlow 1;plus 1 1 -1;jump 1;outlow 1", end: api.EndWrong, steps: 15, low: l(3, 2, 1, 0)},
		trial{text: "set 1 1;zero 0 3;halt;outlow 1;zero 0 2", end: api.EndDone, steps: 5, low: l(1)},
		trial{text: "zero 2 1;zero 3 2;halt", end: api.EndDone, steps: 3},
	)
	for _, number := range []int64{1, -1, 2, 256, 1 << 32, -1 << 32, most, least} {
		trial{text: "set 7 " + strconv.FormatInt(number, 10) + ";zero 7 0;outlow 7;set 7 0;zero 7 6;outhigh 7;halt", end: api.EndDone, steps: 6, low: l(number)}.try(t)
	}
}

// H2: ICheck.
func TestH2Check(t *testing.T) {
	for _, count := range []int64{1, 2, 63, api.MaxArray} {
		for _, number := range []int64{least, -1 << 32, -count, -1, 0, count - 1, count, count + 1, 1 << 32, 1<<32 + 1, most} {
			one := trial{text: "set 5 " + strconv.FormatInt(number, 10) + ";check 5 " + strconv.FormatInt(count, 10) + ";outlow 5;halt", end: api.EndIndex, steps: 2}
			if number >= 0 && number < count {
				one.end, one.steps, one.low = api.EndDone, 4, l(number)
			}
			one.try(t)
		}
	}
}

// H2: ICall and IBack.
func TestH2Calls(t *testing.T) {
	tryAll(t,
		trial{text: "call 3;outlow 1;halt;set 1 7;back", end: api.EndDone, steps: 5, low: l(7)},
		trial{text: "call 4;outlow 1;call 4;halt;plus 1 1 2;outhigh 1;back", end: api.EndDone, steps: 10, low: l(2), high: l(2, 4)},
		// Each IBack belongs to the last call that has not come back.
		trial{text: "call 3;outlow 1;halt;call 6;plus 1 1 1;back;call 8;back;set 1 5;back", end: api.EndDone, steps: 10, low: l(6)},
		trial{text: "back", end: api.EndWrong, steps: 1},
		trial{text: "call 3;back;halt;back", end: api.EndWrong, steps: 3},
		trial{text: "call 2;back;jump 1", end: api.EndWrong, steps: 4},
		trial{text: "call 0", end: api.EndDeep, steps: api.MaxCalls + 1},
		// Behind the last order there is none to come back to.
		trial{text: "jump 2;back;call 1", end: api.EndWrong, steps: 3},
		trial{text: "call 1;halt", end: api.EndDone, steps: 2},
		trial{text: "set 1 2;call 3;halt;outlow 1;back", end: api.EndDone, steps: 5, low: l(2)},
	)
}

// H2: how many calls may not have come back.
func TestH2Deep(t *testing.T) {
	// The call at 4 is done as often as the register 1 says, behind the first one.
	nested := func(more int) string {
		return "set 1 " + strconv.Itoa(more) + ";call 3;halt;zero 1 6;plus 1 1 -1;call 3;outlow 1;back"
	}
	for _, more := range []int{0, 1, 2, api.MaxCalls - 2, api.MaxCalls - 1} {
		trial{text: nested(more), end: api.EndDone, steps: 3 + 3*more + 1 + 2*(more+1), low: make([]int64, more+1)}.try(t)
	}
	for _, more := range []int{api.MaxCalls, api.MaxCalls + 1, 1000} {
		trial{text: nested(more), end: api.EndDeep, steps: 2 + 3*api.MaxCalls}.try(t)
	}
	// Calls that have come back are not counted.
	loop := "set 1 100;zero 1 5;call 6;plus 1 1 -1;jump 1;halt;back"
	trial{text: loop, end: api.EndDone, steps: 1 + 100*5 + 2}.try(t)
	// One that is too many is not done, and neither is what it would call.
	trial{text: "outlow 0;call 0", end: api.EndDeep, steps: 2 * (api.MaxCalls + 1), low: make([]int64, api.MaxCalls+1)}.try(t)
}

// H2, H3: what comes in and out.
func TestH2Inputs(t *testing.T) {
	tryAll(t,
		trial{text: "inlow 1;inhigh 2;outlow 2;outhigh 1;inlow 1;outlow 1;halt", end: api.EndDone, steps: 7, low: l(7, 6), high: l(5), used: [2]int{2, 1}},
		trial{text: "inlow 1;inlow 1;inlow 1;outlow 1;halt", end: api.EndInput, steps: 3, used: [2]int{2, 0}},
		trial{text: "inhigh 7;inhigh 7;outlow 7;halt", end: api.EndInput, steps: 2, used: [2]int{0, 1}},
		trial{text: "inlow 3;halt", end: api.EndDone, steps: 2, used: [2]int{1, 0}},
		trial{text: "outlow 0;outhigh 0;outhigh 0;outlow 0;halt", end: api.EndDone, steps: 5, low: l(0, 0), high: l(0, 0)},
		trial{text: "inhigh 1;putlow 1 0 0;inlow 1;puthigh 1 0 0;jump 0", end: api.EndInput, steps: 6, words: [2][]int64{{7}, {5}}, used: [2]int{1, 1}},
	)
	copies := api.Image{Code: orders(t, "inlow 1;outhigh 1;inhigh 1;outlow 1;jump 0")}
	got, _ := mustRun(t, copies, l(least, most, 1), l(2, -1, 0, 9), 100)
	want := api.Shown{End: api.EndInput, Low: l(2, -1, 0), High: l(least, most, 1), UsedLow: 3, UsedHigh: 3, Steps: 16}
	if !isSame(got, want) {
		t.Errorf("%v is shown; want %v", got, want)
	}
	got, _ = mustRun(t, copies, nil, l(1), 100)
	if !isSame(got, api.Shown{End: api.EndInput, Steps: 1}) {
		t.Errorf("without an input low %v is shown", got)
	}
}

// H2: an operation makes of B and C what num.Op makes of them, whichever registers they are.
func TestH2Ops(t *testing.T) {
	edges := []int64{0, 1, 2, 7, -1, -2, -7, 1 << 32, most, least}
	for op := api.OpAdd; op <= api.OpSame; op++ {
		for i, x := range edges {
			for j, y := range edges {
				a, b, c := (i+j)%api.Regs, (i*3+op)%api.Regs, j%api.Regs
				if b == c {
					x = y
				}
				code := []api.Instr{{Op: api.ISet, A: b, N: x}, {Op: api.ISet, A: c, N: y}, {Op: api.IOp + op, A: a, B: b, C: c}, {Op: api.IOutLow, A: a}, {Op: api.IHalt}}
				value, ok := num.Op(op, x, y)
				want := api.Shown{End: api.EndDone, Low: l(value), Steps: 5}
				if !ok {
					want = api.Shown{End: api.EndDivided, Steps: 3}
				}
				if got, _ := mustRun(t, api.Image{Code: code}, nil, nil, 10); !isSame(got, want) {
					t.Errorf("%d of %d and %d: %v is shown; want %v", op, x, y, got, want)
				}
			}
		}
	}
	tryAll(t,
		trial{text: "set 1 7;set 2 2;sub 3 1 2;outlow 3;sub 3 2 1;outlow 3;sub 1 1 1;outlow 1;outlow 2;halt", end: api.EndDone, steps: 10, low: l(5, -5, 0, 2)},
		trial{text: "set 1 7;div 2 1 3;outlow 1", end: api.EndDivided, steps: 2},
		trial{text: "set 1 7;mod 1 1 3;outlow 1", end: api.EndDivided, steps: 2},
		trial{text: "set 1 7;div 2 3 1;outlow 2", end: api.EndWrong, steps: 3, low: l(0)},
	)
}

// H2: where no order is left.
func TestH2NoneLeft(t *testing.T) {
	tryAll(t,
		trial{text: "set 1 7", end: api.EndWrong, steps: 1},
		trial{text: "outlow 0;outhigh 1;set 1 2;putlow 1 0 1", end: api.EndWrong, steps: 4, low: l(0), high: l(0), words: [2][]int64{{0, 2}, {}}},
		trial{text: "set 1 1;zero 1 0", end: api.EndWrong, steps: 2},
		trial{text: "jump 2;halt;inlow 1", end: api.EndWrong, steps: 2, used: [2]int{1, 0}},
		trial{text: "check 1 1", end: api.EndWrong, steps: 1},
	)
}

// H2: what is wrong of several things is the first of them; nothing else is told.
func TestH2Errors(t *testing.T) {
	good := api.Image{Code: orders(t, "set 1 5;outlow 1;putlow 1 0 0;halt"), Low: 1}
	bad := api.Image{Code: orders(t, "set 1 5;outlow 1;putlow 1 0 0;set 8 0"), Low: 1}
	fit, long := make([]int64, api.MaxInput), make([]int64, api.MaxInput+1)
	try := func(m api.Image, low, high []int64, fuel int, want api.Errno) {
		t.Helper()
		shown, words, code := Run(m, low, high, fuel)
		if code != want || code != api.OK && (len(words) != 0 || !isSame(shown, api.Shown{})) {
			t.Errorf("Run with %d and %d numbers and the fuel %d = %v, %v, %v; want %v", len(low), len(high), fuel, shown, words, code, want)
		}
	}
	for _, fuel := range []int{-1, api.MaxFuel + 1, least, most, 1 << 32, -1 << 32, 1<<32 + 1} {
		try(good, nil, nil, fuel, api.ErrRange)
		try(good, long, nil, fuel, api.ErrRange)
		try(good, nil, long, fuel, api.ErrRange)
		try(bad, nil, nil, fuel, api.ErrForm)
		try(bad, long, long, fuel, api.ErrForm)
		try(api.Image{}, fit, long, fuel, api.ErrForm)
	}
	for _, fuel := range []int{0, 1, 1000, api.MaxFuel - 1, api.MaxFuel} {
		try(good, nil, nil, fuel, api.OK)
		try(good, fit, fit, fuel, api.OK)
		try(good, long, nil, fuel, api.ErrSize)
		try(good, nil, long, fuel, api.ErrSize)
		try(good, fit, long, fuel, api.ErrSize)
		try(good, long, fit, fuel, api.ErrSize)
		try(good, make([]int64, 100000), long, fuel, api.ErrSize)
		try(bad, nil, nil, fuel, api.ErrForm)
		try(bad, long, nil, fuel, api.ErrForm)
		try(api.Image{}, nil, nil, fuel, api.ErrForm)
	}
}

// H2: fuel as much as may be, inputs as long as may be, calls and words to their ends.
func TestH2Long(t *testing.T) {
	for _, fuel := range []int{0, 1, api.MaxFuel - 1, api.MaxFuel} {
		got, _ := mustRun(t, api.Image{Code: orders(t, "jump 0")}, nil, nil, fuel)
		if !isSame(got, api.Shown{Steps: fuel}) {
			t.Errorf("with the fuel %d %v is shown", fuel, got)
		}
	}
	got, _ := mustRun(t, api.Image{Code: orders(t, "outlow 0;jump 0")}, nil, nil, api.MaxFuel)
	if got.End != api.EndFuel || len(got.Low) != api.MaxFuel/2 || len(got.High) != 0 {
		t.Errorf("%d numbers come out", len(got.Low))
	}
	fit := make([]int64, api.MaxInput)
	for i := range fit {
		fit[i] = int64(i) - 500
	}
	got, _ = mustRun(t, api.Image{Code: orders(t, "inlow 1;outlow 1;inhigh 2;outhigh 2;jump 0")}, fit, fit, api.MaxFuel)
	want := api.Shown{End: api.EndInput, Low: fit, High: fit, UsedLow: api.MaxInput, UsedHigh: api.MaxInput, Steps: 5*api.MaxInput + 1}
	if !isSame(got, want) {
		t.Errorf("of the longest inputs %d and %d numbers are taken, in %d steps", got.UsedLow, got.UsedHigh, got.Steps)
	}
	code := slices.Repeat(orders(t, "plus 1 1 1"), api.MaxCode-1)
	code = append(code, orders(t, "outlow 1")...)
	got, _ = mustRun(t, api.Image{Code: code}, nil, nil, api.MaxFuel)
	if !isSame(got, api.Shown{End: api.EndWrong, Low: l(api.MaxCode - 1), Steps: api.MaxCode}) {
		t.Errorf("the longest image shows %v", got)
	}
}

// H3: which steps are counted where a run ends, and where it is cut off.
func TestH3Steps(t *testing.T) {
	code := orders(t, "set 1 7;outlow 1;putlow 1 0 1;inlow 2;puthigh 2 0 0;inhigh 3;outhigh 3;call 8;jump 9;halt")
	m := api.Image{Code: code, Low: 2, High: 1}
	for fuel, want := range []api.Shown{
		{}, {}, {Low: l(7)}, {Low: l(7)}, {Low: l(7), UsedLow: 1}, {Low: l(7), UsedLow: 1},
		{Low: l(7), UsedLow: 1, UsedHigh: 1}, {Low: l(7), High: l(9), UsedLow: 1, UsedHigh: 1}, {Low: l(7), High: l(9), UsedLow: 1, UsedHigh: 1},
		{Low: l(7), High: l(9), UsedLow: 1, UsedHigh: 1}, {End: api.EndDone, Low: l(7), High: l(9), UsedLow: 1, UsedHigh: 1},
	} {
		want.Steps = fuel
		words := [][]int64{make([]int64, 2), make([]int64, 1)}
		if fuel >= 3 {
			words[0][1] = 7
		}
		if fuel >= 5 {
			words[1][0] = 8
		}
		got, last := mustRun(t, m, l(8, 8), l(9), fuel)
		if !isSame(got, want) || !slices.Equal(last[0], words[0]) || !slices.Equal(last[1], words[1]) {
			t.Errorf("with the fuel %d: %v, %v; want %v, %v", fuel, got, last, want, words)
		}
	}
}

// H3: what an order that ends the run would have done is not done; what the ones ahead did is.
func TestH3Ends(t *testing.T) {
	begin := "set 1 3;putlow 1 0 0;puthigh 1 0 1;outlow 1;outhigh 1;"
	for end, last := range map[string]int{
		"halt": api.EndDone, "putlow 1 1 0": api.EndWrong, "puthigh 1 1 0": api.EndWrong, "loadlow 1 1 0": api.EndWrong, "loadhigh 1 1 -1": api.EndWrong,
		"div 1 1 0": api.EndDivided, "mod 1 1 0": api.EndDivided, "check 1 3": api.EndIndex, "back": api.EndWrong,
	} {
		trial{text: begin + end + ";outlow 1;putlow 0 0 0;halt", end: last, steps: 6, low: l(3), high: l(3), words: [2][]int64{{3}, {0, 3}}}.try(t)
	}
}

// P3: what is handed in is not changed, nor what lies behind it read; what comes out is new.
func TestP3(t *testing.T) {
	code := orders(t, "inlow 1;inhigh 2;outlow 1;outhigh 2;putlow 1 0 1;puthigh 2 0 1;inlow 3;outlow 3;halt;halt")
	keep := slices.Clone(code)
	m := api.Image{Code: code[:6], Low: 2, High: 2}
	low, high := l(5, 6, 7), l(8, 9)
	want := api.Shown{End: api.EndWrong, Low: l(5), High: l(8), UsedLow: 1, UsedHigh: 1, Steps: 6}
	got, words := mustRun(t, m, low[:1], high[:1], 100)
	if !isSame(got, want) || !slices.Equal(words[0], l(0, 5)) || !slices.Equal(words[1], l(0, 8)) {
		t.Fatalf("%v, %v; want %v", got, words, want)
	}
	m.Code = code[:9]
	short, _ := mustRun(t, m, low[:1], high[:1], 100)
	if !isSame(short, api.Shown{End: api.EndInput, Low: l(5), High: l(8), UsedLow: 1, UsedHigh: 1, Steps: 7}) {
		t.Errorf("%v is shown", short)
	}
	code[9].N = most
	tryMay(t, m, true)
	code[9].N = 0
	again, more := mustRun(t, m, low[:1], high[:1], 100)
	for _, list := range [][]int64{got.Low, got.High, words[0], words[1]} {
		for i := range list[:cap(list)] {
			list[:cap(list)][i] = 99
		}
	}
	if !slices.Equal(low, l(5, 6, 7)) || !slices.Equal(high, l(8, 9)) || !slices.Equal(code, keep) {
		t.Errorf("what was handed in has become %v, %v, %v", low, high, code)
	}
	if !isSame(again, short) || !slices.Equal(more[0], l(0, 5)) || !slices.Equal(more[1], l(0, 8)) || !slices.Equal(got.Low, l(99)) {
		t.Errorf("memory is shared: %v, %v, %v", got, again, more)
	}
	for i, list := range [][]int64{got.Low, got.High, words[0], words[1]} {
		for j := range list[:cap(list)] {
			list[:cap(list)][j] = int64(i)
		}
	}
	if got.Low[0] != 0 || got.High[0] != 1 || words[0][0] != 2 || words[1][1] != 3 {
		t.Errorf("two lists of what comes out share memory: %v, %v", got, words)
	}
}
