// Package show has what a run of texts (doc/07-model.md) and a run of orders
// (doc/08-machine.md) have in common: fuel, two inputs, what it shows, and how
// it ends.
package show

import (
	"dryshod/api"
	"dryshod/num"
)

// Run is what a run has shown so far, and what it was given.
type Run struct {
	api.Shown
	lowInput, highInput []int64
	fuel                int
}

// Ended is how a run ends; it is thrown where it does.
type Ended int

// New answers a run that has not begun; ErrRange: fuel is not from 0 to most;
// ErrSize: an input is too long.
func New(low, high []int64, fuel, most int) (Run, api.Errno) {
	if fuel < 0 || fuel > most {
		return Run{}, api.ErrRange
	}
	if len(low) > api.MaxInput || len(high) > api.MaxInput {
		return Run{}, api.ErrSize
	}
	return Run{lowInput: low, highInput: high, fuel: fuel}, api.OK
}

// Through does all that there is to do, and tells how that ends: EndDone, if
// nothing has ended it ahead.
func (r *Run) Through(all func()) {
	defer func() {
		switch lost := recover().(type) {
		case nil:
			r.End = api.EndDone
		case Ended:
			r.End = int(lost)
		default:
			panic(lost)
		}
	}()
	all()
}

// Step counts one, if there is fuel for it.
func (r *Run) Step() {
	if r.Steps == r.fuel {
		panic(Ended(api.EndFuel))
	}
	r.Steps++
}

// Take answers the next number of the input with that label.
func (r *Run) Take(label int) int64 {
	input, used := r.lowInput, &r.UsedLow
	if label == api.High {
		input, used = r.highInput, &r.UsedHigh
	}
	if *used == len(input) {
		panic(Ended(api.EndInput))
	}
	value := input[*used]
	*used++
	return value
}

// Out lets a number come out with that label.
func (r *Run) Out(label int, value int64) {
	if label == api.High {
		r.High = append(r.High, value)
	} else {
		r.Low = append(r.Low, value)
	}
}

// Reckon answers num.Op of a and b, where it answers something.
func Reckon(op int, a, b int64) int64 {
	value, ok := num.Op(op, a, b)
	if !ok {
		panic(Ended(api.EndDivided))
	}
	return value
}
