package model

import (
	"dryshod/api"
	"dryshod/show"
)

// run is a program that is run, and what it has shown so far.
type run struct {
	program
	show.Run
	calls int // that have not come back
}

// given is what an NReturn gives; it is thrown to end the call.
type given int64

// call answers what the procedure with that long name gives; 0, if it gives nothing.
func (r *run) call(name string, args []int64) (value int64) {
	if r.calls == api.MaxCalls {
		panic(show.Ended(api.EndDeep))
	}
	defer func() {
		switch lost := recover().(type) {
		case nil:
		case given:
			value = int64(lost)
		default:
			panic(lost)
		}
		r.calls--
	}()
	r.calls++
	p := r.procs[name]
	f := frame{run: r, module: p.module}
	for i, param := range p.params {
		f.add(param.Text, args[i])
	}
	f.block(p.block)
	return 0
}
