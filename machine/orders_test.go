package machine

import (
	"strconv"
	"strings"
	"testing"

	"dryshod/api"
)

// kind is a row of H1's table, told again. In fields a, b and c are registers,
// n is any number, t an order on which to go on, and s from 1 to MaxArray.
type kind struct {
	name   string
	op     int
	fields string
}

func kinds() []kind {
	return []kind{
		{"set", api.ISet, "an"}, {"move", api.IMove, "ab"}, {"plus", api.IAdd, "abn"},
		{"loadlow", api.ILoadLow, "abn"}, {"loadhigh", api.ILoadHi, "abn"}, {"putlow", api.IPutLow, "abn"}, {"puthigh", api.IPutHi, "abn"},
		{"jump", api.IJump, "t"}, {"zero", api.IZero, "at"}, {"check", api.ICheck, "as"}, {"call", api.ICall, "t"}, {"back", api.IBack, ""},
		{"outlow", api.IOutLow, "a"}, {"outhigh", api.IOutHi, "a"}, {"inlow", api.IInLow, "a"}, {"inhigh", api.IInHi, "a"}, {"halt", api.IHalt, ""},
		{"add", api.IOp + api.OpAdd, "abc"}, {"sub", api.IOp + api.OpSub, "abc"}, {"mul", api.IOp + api.OpMul, "abc"},
		{"div", api.IOp + api.OpDiv, "abc"}, {"mod", api.IOp + api.OpMod, "abc"}, {"and", api.IOp + api.OpAnd, "abc"},
		{"or", api.IOp + api.OpOr, "abc"}, {"less", api.IOp + api.OpLess, "abc"}, {"same", api.IOp + api.OpSame, "abc"},
	}
}

// kindOf answers the row of an operation, and whether there is one.
func kindOf(op int) (kind, bool) {
	for _, k := range kinds() {
		if k.op == op {
			return k, true
		}
	}
	return kind{}, false
}

// orders reads what is between semicolons, such as "set 1 7": a name of the
// table, and a number for each of its fields.
func orders(t *testing.T, text string) []api.Instr {
	t.Helper()
	var all []api.Instr
	for _, row := range strings.Split(text, ";") {
		words := strings.Fields(row)
		known := false
		for _, k := range kinds() {
			if len(words) == len(k.fields)+1 && words[0] == k.name {
				known = true
				all = append(all, read(t, k, words[1:]))
			}
		}
		if !known {
			t.Fatalf("%q in %q is no order", row, text)
		}
	}
	return all
}

func read(t *testing.T, k kind, words []string) api.Instr {
	t.Helper()
	o := api.Instr{Op: k.op}
	for i, field := range k.fields {
		number, err := strconv.ParseInt(words[i], 10, 64)
		if err != nil {
			t.Fatal(err)
		}
		switch field {
		case 'a':
			o.A = int(number)
		case 'b':
			o.B = int(number)
		case 'c':
			o.C = int(number)
		default:
			o.N = number
		}
	}
	return o
}

// mayStand tells by the table whether an order may stand among so many.
func mayStand(o api.Instr, count int64) bool {
	k, known := kindOf(o.Op)
	if !known {
		return false
	}
	for i, number := range []int{o.A, o.B, o.C} {
		isNamed := strings.Contains(k.fields, "abc"[i:i+1])
		if number != 0 && (!isNamed || number < 0 || number > 7) {
			return false
		}
	}
	switch {
	case strings.Contains(k.fields, "n"):
		return true
	case strings.Contains(k.fields, "t"):
		return 0 <= o.N && o.N < count
	case strings.Contains(k.fields, "s"):
		return 1 <= o.N && o.N <= 64
	}
	return o.N == 0
}

func tryMay(t *testing.T, m api.Image, want bool) {
	t.Helper()
	if got := May(m); got != want {
		t.Fatalf("May of %.200v (%d orders), %d, %d = %v", m.Code, len(m.Code), m.Low, m.High, got)
	}
	shown, words, code := Run(m, nil, nil, 0)
	if want && code != api.OK || !want && (code != api.ErrForm || words != nil || !isSame(shown, api.Shown{})) {
		t.Fatalf("Run of %.200v (%d orders), %d, %d = %v, %v, %v", m.Code, len(m.Code), m.Low, m.High, shown, words, code)
	}
}

// H1: each field of each kind of order at its edges, wherever the order stands.
func TestH1Fields(t *testing.T) {
	const most, least = 1<<63 - 1, -1 << 63
	ops := []int{most, least, 1 << 32, 1<<32 + 1, 100, 256 + 1}
	for op := -30; op <= 60; op++ {
		ops = append(ops, op)
	}
	registers := []int{0, 1, api.Regs - 1, api.Regs, -1, 1 << 32, most, least}
	numbers := []int64{0, 1, 2, 3, 4, api.MaxArray - 1, api.MaxArray, api.MaxArray + 1, -1, 1 << 32, 1<<32 + 1, most, least}
	may := 0
	for _, op := range ops {
		for _, a := range registers {
			for _, b := range registers {
				for _, c := range registers {
					for _, n := range numbers {
						o := api.Instr{Op: op, A: a, B: b, C: c, N: n}
						code := make([]api.Instr, 3)
						for i := range code {
							code[i].Op = api.IHalt
						}
						code[(a+b+c+op)&1+int(n&1)] = o
						want := mayStand(o, 3)
						if got := May(api.Image{Code: code}); got != want {
							t.Fatalf("May of %v among 3 orders is %v", o, got)
						}
						if want {
							may++
						}
					}
				}
			}
		}
	}
	// With 8 registers of which 3 may be, and 13 numbers: as many as the table has.
	want := 3*13 + 9 + 5*9*13 + 3 + 3*3 + 3*6 + 3 + 1 + 4*3 + 1 + 9*27
	if may != want {
		t.Errorf("%d orders may be; want %d", may, want)
	}
}

// H1: where an order goes on, among few and among many.
func TestH1GoesOn(t *testing.T) {
	for _, count := range []int{1, 2, 3, 65, api.MaxCode} {
		for _, name := range []string{"jump ", "zero 7 ", "call "} {
			for _, at := range []int{0, count / 2, count - 1} {
				code := make([]api.Instr, count)
				for i := range code {
					code[i].Op = api.IBack
				}
				for n, want := range map[int]bool{0: true, count - 1: true, count: false, count + 1: false, -1: false, 1 << 40: false, -1 << 63: false, 1<<63 - 1: false} {
					code[at] = orders(t, name+strconv.Itoa(n))[0]
					tryMay(t, api.Image{Code: code}, want)
				}
			}
		}
	}
}

// H1: how many orders and words there may be.
func TestH1Sizes(t *testing.T) {
	tryMay(t, api.Image{}, false)
	tryMay(t, api.Image{Code: []api.Instr{}, Low: 1, High: 1}, false)
	for count, want := range map[int]bool{1: true, 2: true, api.MaxCode - 1: true, api.MaxCode: true, api.MaxCode + 1: false, 3 * api.MaxCode: false} {
		code := make([]api.Instr, count)
		for i := range code {
			code[i].Op = api.IHalt
		}
		tryMay(t, api.Image{Code: code}, want)
		for _, at := range []int{0, count / 2, count - 1} {
			code[at].Op = 0
			tryMay(t, api.Image{Code: code}, false)
			code[at].Op = api.IHalt
		}
	}
	one := orders(t, "halt")
	for words, want := range map[int]bool{0: true, 1: true, api.MaxWords: true, api.MaxWords + 1: false, -1: false, 1 << 32: false, 1<<63 - 1: false, -1 << 63: false} {
		tryMay(t, api.Image{Code: one, Low: words}, want)
		tryMay(t, api.Image{Code: one, High: words}, want)
		tryMay(t, api.Image{Code: one, Low: words, High: words}, want)
		tryMay(t, api.Image{Code: one, Low: words, High: -1}, false)
		tryMay(t, api.Image{Code: one, Low: api.MaxWords + 1, High: words}, false)
	}
}
