package num

import (
	"math"
	"math/big"
	"testing"

	"dryshod/api"
)

const (
	least    = math.MinInt64
	greatest = math.MaxInt64
)

type opCase struct {
	op         int
	a, b, want int64
	ok         bool
}

func tryOps(t *testing.T, cases []opCase) {
	t.Helper()
	for _, c := range cases {
		if n, ok := Op(c.op, c.a, c.b); n != c.want || ok != c.ok {
			t.Errorf("Op(%d, %d, %d) = %d, %t; want %d, %t", c.op, c.a, c.b, n, ok, c.want, c.ok)
		}
	}
}

// A1: ordinary numbers.
func TestA1Ordinary(t *testing.T) {
	tryOps(t, []opCase{
		{api.OpAdd, 2, 3, 5, true},
		{api.OpAdd, -2, -3, -5, true},
		{api.OpSub, 2, 3, -1, true},
		{api.OpSub, 3, 2, 1, true},
		{api.OpMul, 6, 7, 42, true},
		{api.OpMul, -6, 7, -42, true},
		{api.OpDiv, 42, 7, 6, true},
		{api.OpDiv, 0, 7, 0, true},
		{api.OpMod, 43, 7, 1, true},
		{api.OpMod, 42, 7, 0, true},
		{api.OpAnd, 12, 10, 8, true},
		{api.OpAnd, -1, 10, 10, true},
		{api.OpAnd, -2, -3, -4, true},
		{api.OpOr, 12, 10, 14, true},
		{api.OpOr, -2, 1, -1, true},
		{api.OpOr, 0, 0, 0, true},
	})
}

// A1: a quotient is cut towards 0, what is left over has the sign of a.
func TestA1Signs(t *testing.T) {
	tryOps(t, []opCase{
		{api.OpDiv, 7, 2, 3, true},
		{api.OpDiv, -7, 2, -3, true},
		{api.OpDiv, 7, -2, -3, true},
		{api.OpDiv, -7, -2, 3, true},
		{api.OpDiv, -1, 2, 0, true},
		{api.OpMod, 7, 2, 1, true},
		{api.OpMod, -7, 2, -1, true},
		{api.OpMod, 7, -2, 1, true},
		{api.OpMod, -7, -2, -1, true},
		{api.OpMod, -1, 2, -1, true},
	})
}

// A1: a b of 0 is refused of OpDiv and OpMod, and of these alone.
func TestA1Nought(t *testing.T) {
	for _, a := range []int64{0, 1, -1, 5, least, greatest} {
		tryOps(t, []opCase{
			{api.OpDiv, a, 0, 0, false},
			{api.OpMod, a, 0, 0, false},
			{api.OpAdd, a, 0, a, true},
			{api.OpSub, a, 0, a, true},
			{api.OpMul, a, 0, 0, true},
			{api.OpAnd, a, 0, 0, true},
			{api.OpOr, a, 0, a, true},
		})
	}
}

// A1: what is beyond the 64 bits is lost.
func TestA1Beyond(t *testing.T) {
	tryOps(t, []opCase{
		{api.OpAdd, greatest, 1, least, true},
		{api.OpAdd, least, -1, greatest, true},
		{api.OpAdd, least, least, 0, true},
		{api.OpSub, least, 1, greatest, true},
		{api.OpSub, 0, least, least, true},
		{api.OpSub, greatest, -1, least, true},
		{api.OpMul, greatest, 2, -2, true},
		{api.OpMul, greatest, greatest, 1, true},
		{api.OpMul, least, -1, least, true},
		{api.OpMul, least, 2, 0, true},
		{api.OpMul, 1 << 32, 1 << 32, 0, true},
		{api.OpDiv, least, -1, least, true},
		{api.OpMod, least, -1, 0, true},
		{api.OpDiv, least, 1, least, true},
		{api.OpDiv, greatest, -1, -greatest, true},
	})
}

// A1: what is true is 1, what is not is 0, and numbers have signs.
func TestA1Truth(t *testing.T) {
	tryOps(t, []opCase{
		{api.OpLess, 1, 2, 1, true},
		{api.OpLess, 2, 1, 0, true},
		{api.OpLess, 2, 2, 0, true},
		{api.OpLess, -1, 1, 1, true},
		{api.OpLess, 1, -1, 0, true},
		{api.OpLess, least, greatest, 1, true},
		{api.OpLess, greatest, least, 0, true},
		{api.OpLess, 0, least, 0, true},
		{api.OpSame, 2, 2, 1, true},
		{api.OpSame, 2, -2, 0, true},
		{api.OpSame, 0, 0, 1, true},
		{api.OpSame, least, least, 1, true},
		{api.OpSame, least, greatest, 0, true},
		{api.OpSame, 1, 1<<32 + 1, 0, true},
	})
}

// A1: ops that are none.
func TestA1NoOp(t *testing.T) {
	ops := []int{
		api.OpAdd - 1, api.OpSame + 1, -api.OpAdd, -api.OpSame,
		api.IOp, api.IOp + api.OpAdd, api.IOp + api.OpSame,
		1<<8 + api.OpAdd, 1<<16 + api.OpAdd, 1<<30 + api.OpAdd,
		math.MinInt, math.MinInt + api.OpAdd, math.MaxInt,
	}
	for _, op := range ops {
		for _, a := range edges() {
			for _, b := range edges() {
				tryOps(t, []opCase{{op, a, b, 0, false}})
			}
		}
	}
}

// A1: all ops at all pairs of edges answer what numbers without bounds answer, cut to 64 bits.
func TestA1Edges(t *testing.T) {
	for op := api.OpAdd; op <= api.OpSame; op++ {
		for _, a := range edges() {
			for _, b := range edges() {
				want, ok := unbounded(op, a, b)
				tryOps(t, []opCase{{op, a, b, want, ok}})
			}
		}
	}
}

// edges: numbers near 0, near the ends, and near each power of two.
func edges() []int64 {
	out := []int64{0, 10, -10, 1000000007, -1000000007, 0x5555555555555555, -0x5555555555555556}
	for shift := 0; shift < 64; shift += 7 {
		power := int64(1) << shift
		out = append(out, power-1, power, power+1, -power-1, -power, -power+1)
	}
	return out
}

func unbounded(op int, a, b int64) (int64, bool) {
	x, y, z := big.NewInt(a), big.NewInt(b), new(big.Int)
	switch op {
	case api.OpAdd:
		z.Add(x, y)
	case api.OpSub:
		z.Sub(x, y)
	case api.OpMul:
		z.Mul(x, y)
	case api.OpDiv, api.OpMod:
		if y.Sign() == 0 {
			return 0, false
		}
		rest := new(big.Int)
		z.QuoRem(x, y, rest)
		if op == api.OpMod {
			z = rest
		}
	case api.OpAnd:
		z.And(x, y)
	case api.OpOr:
		z.Or(x, y)
	case api.OpLess:
		z.SetInt64(oneIf(x.Cmp(y) < 0))
	case api.OpSame:
		z.SetInt64(oneIf(x.Cmp(y) == 0))
	}
	return cut(z), true
}

func oneIf(holds bool) int64 {
	if holds {
		return 1
	}
	return 0
}

func cut(z *big.Int) int64 {
	mask := new(big.Int).SetUint64(math.MaxUint64)
	return int64(new(big.Int).And(z, mask).Uint64())
}

// A2: the two labels.
func TestA2Labels(t *testing.T) {
	for _, c := range [][3]int{
		{api.Low, api.Low, api.Low},
		{api.Low, api.High, api.High},
		{api.High, api.Low, api.High},
		{api.High, api.High, api.High},
	} {
		if l := Join(c[0], c[1]); l != c[2] {
			t.Errorf("Join(%d, %d) = %d; want %d", c[0], c[1], l, c[2])
		}
	}
}

// A2: labels that are neither api.Low nor api.High count as high, on either side.
func TestA2NoLabels(t *testing.T) {
	wrong := []int{-1, 2, 3, 7, -2, 1 << 8, 1 << 16, 1 << 30, math.MinInt, math.MaxInt}
	for _, w := range wrong {
		for _, l := range append([]int{api.Low, api.High, -w}, wrong...) {
			if got := Join(w, l); got != api.High {
				t.Errorf("Join(%d, %d) = %d; want api.High", w, l, got)
			}
			if got := Join(l, w); got != api.High {
				t.Errorf("Join(%d, %d) = %d; want api.High", l, w, got)
			}
		}
	}
}

// A3: what is reckoned of a row of numbers is high just where one of them is,
// whether those ahead or those behind go together first.
func TestA3Rows(t *testing.T) {
	const most = 8
	for size := 1; size <= most; size++ {
		for highs := 0; highs < 1<<size; highs++ {
			row := make([]int, size)
			for i := range row {
				row[i] = api.Low
				if highs>>i&1 == 1 {
					row[i] = api.High
				}
			}
			want := api.Low
			if highs != 0 {
				want = api.High
			}
			if ahead, behind := joinAhead(row), joinBehind(row); ahead != want || behind != want {
				t.Errorf("labels %v join to %d and %d; want %d", row, ahead, behind, want)
			}
		}
	}
}

func joinAhead(row []int) int {
	label := row[0]
	for _, next := range row[1:] {
		label = Join(label, next)
	}
	return label
}

func joinBehind(row []int) int {
	label := row[len(row)-1]
	for i := len(row) - 2; i >= 0; i-- {
		label = Join(row[i], label)
	}
	return label
}
