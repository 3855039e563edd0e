package show

import (
	"slices"
	"testing"

	"dryshod/api"
	"dryshod/num"
)

// begin answers a run with the inputs low 5, 6 and high 7.
func begin(t *testing.T, fuel int) *Run {
	t.Helper()
	r, code := New([]int64{5, 6}, []int64{7}, fuel, 10)
	if code != api.OK {
		t.Fatalf("New with the fuel %d tells %v", fuel, code)
	}
	return &r
}

func TestNew(t *testing.T) {
	most, long := make([]int64, api.MaxInput), make([]int64, api.MaxInput+1)
	for _, one := range []struct {
		low, high []int64
		fuel      int
		want      api.Errno
	}{
		{nil, nil, 0, api.OK}, {most, most, 10, api.OK}, {nil, nil, -1, api.ErrRange}, {nil, nil, 11, api.ErrRange}, {long, long, 11, api.ErrRange},
		{long, nil, 10, api.ErrSize}, {nil, long, 0, api.ErrSize}, {nil, nil, -1 << 63, api.ErrRange}, {nil, nil, 1<<63 - 1, api.ErrRange},
	} {
		r, code := New(one.low, one.high, one.fuel, 10)
		if code != one.want || code != api.OK && (r.lowInput != nil || r.highInput != nil || r.fuel != 0) {
			t.Errorf("New with %d and %d numbers and the fuel %d = %v, %v; want %v", len(one.low), len(one.high), one.fuel, r, code, one.want)
		}
	}
}

// How each run ends, and what was done ahead of that.
func TestThrough(t *testing.T) {
	for _, one := range []struct {
		all                   func(r *Run)
		end, steps, low, high int
	}{
		{func(r *Run) {}, api.EndDone, 0, 0, 0},
		{func(r *Run) { r.Step(); r.Take(api.Low); r.Take(api.High); r.Step() }, api.EndDone, 2, 1, 1},
		{func(r *Run) { r.Step(); r.Step(); r.Step(); r.Step(); r.Take(api.Low) }, api.EndFuel, 3, 0, 0},
		{func(r *Run) { r.Take(api.Low); r.Take(api.Low); r.Take(api.Low); r.Step() }, api.EndInput, 0, 2, 0},
		{func(r *Run) { r.Take(api.High); r.Take(api.High); r.Step() }, api.EndInput, 0, 0, 1},
		{func(r *Run) { r.Step(); panic(Ended(api.EndDeep)) }, api.EndDeep, 1, 0, 0},
		{func(r *Run) { Reckon(api.OpDiv, 1, 0); r.Step() }, api.EndDivided, 0, 0, 0},
	} {
		r := begin(t, 3)
		r.Through(func() { one.all(r) })
		if r.End != one.end || r.Steps != one.steps || r.UsedLow != one.low || r.UsedHigh != one.high {
			t.Errorf("%v is shown; want %v", r.Shown, one)
		}
	}
}

// What is thrown and is not how a run ends is thrown on.
func TestThroughOthers(t *testing.T) {
	defer func() {
		if lost := recover(); lost != "other" {
			t.Errorf("%v is thrown on", lost)
		}
	}()
	begin(t, 3).Through(func() { panic("other") })
}

func TestTakeAndOut(t *testing.T) {
	r := begin(t, 3)
	r.Out(api.High, r.Take(api.Low))
	r.Out(api.Low, r.Take(api.High))
	r.Out(api.High, r.Take(api.Low))
	if !slices.Equal(r.Low, []int64{7}) || !slices.Equal(r.High, []int64{5, 6}) || r.UsedLow != 2 || r.UsedHigh != 1 {
		t.Errorf("%v is shown", r.Shown)
	}
}

func TestReckon(t *testing.T) {
	for op := api.OpAdd; op <= api.OpSame; op++ {
		for _, b := range []int64{-3, 1, 7} {
			if want, _ := num.Op(op, 7, b); Reckon(op, 7, b) != want {
				t.Errorf("Reckon(%d, 7, %d) = %d; want %d", op, b, Reckon(op, 7, b), want)
			}
		}
	}
}
