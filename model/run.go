package model

import (
	"dryshod/api"
	"dryshod/num"
)

// run is a program that is run, and what it has shown so far.
type run struct {
	program
	api.Shown
	lowInput, highInput []int64
	fuel                int
	calls               int // that have not come back
}

// ended is how a run ends; it is thrown where it ends ahead of main.
type ended int

// given is what an NReturn gives; it is thrown to end the call.
type given int64

// start calls main, and tells how the run ends.
func (r *run) start() {
	defer func() {
		switch lost := recover().(type) {
		case nil:
			r.End = api.EndDone
		case ended:
			r.End = int(lost)
		default:
			panic(lost)
		}
	}()
	r.call("main.main", nil)
}

// call answers what the procedure with that long name gives; 0, if it gives nothing.
func (r *run) call(name string, args []int64) (value int64) {
	if r.calls == api.MaxCalls {
		panic(ended(api.EndDeep))
	}
	defer func() {
		switch lost := recover().(type) {
		case nil:
		case given:
			value = int64(lost)
		default:
			panic(lost)
		}
		r.calls--
	}()
	r.calls++
	p := r.procs[name]
	f := frame{run: r, module: p.module}
	for i, param := range p.params {
		f.add(param.Text, args[i])
	}
	f.block(p.block)
	return 0
}

// step counts one.
func (r *run) step() {
	if r.Steps == r.fuel {
		panic(ended(api.EndFuel))
	}
	r.Steps++
}

// take answers the next number of the input with that label.
func (r *run) take(label int) int64 {
	input, used := r.lowInput, &r.UsedLow
	if label == api.High {
		input, used = r.highInput, &r.UsedHigh
	}
	if *used == len(input) {
		panic(ended(api.EndInput))
	}
	value := input[*used]
	*used++
	return value
}

// show lets a number come out with that label.
func (r *run) show(label int, value int64) {
	if label == api.High {
		r.High = append(r.High, value)
	} else {
		r.Low = append(r.Low, value)
	}
}

// reckon answers num.Op of a and b.
func reckon(op int, a, b int64) int64 {
	value, ok := num.Op(op, a, b)
	if !ok {
		panic(ended(api.EndDivided))
	}
	return value
}
