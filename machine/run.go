package machine

import (
	"dryshod/api"
	"dryshod/show"
)

// machine is one that runs, and what it has shown so far.
type machine struct {
	show.Run
	code                []api.Instr
	next                int // the order that is done next
	registers           [api.Regs]int64
	lowWords, highWords []int64 // of both memories
	backs               []int   // where calls that have not come back go on
}

// doAll does orders until one of them ends the run. That no order is left is
// asked ahead of the fuel: nothing more would be done, however much there is.
func (m *machine) doAll() {
	for {
		if m.next == len(m.code) {
			panic(show.Ended(api.EndWrong))
		}
		m.Step()
		o := m.code[m.next]
		m.next++
		m.do(o)
	}
}

func (m *machine) do(o api.Instr) {
	a, b := &m.registers[o.A], m.registers[o.B]
	switch o.Op {
	case api.ISet:
		*a = o.N
	case api.IMove:
		*a = b
	case api.IAdd:
		*a = b + o.N
	case api.ILoadLow:
		*a = *word(m.lowWords, b+o.N)
	case api.ILoadHi:
		*a = *word(m.highWords, b+o.N)
	case api.IPutLow:
		*word(m.lowWords, b+o.N) = *a
	case api.IPutHi:
		*word(m.highWords, b+o.N) = *a
	case api.IJump:
		m.next = int(o.N)
	case api.IZero:
		if *a == 0 {
			m.next = int(o.N)
		}
	case api.ICheck:
		if *a < 0 || *a >= o.N {
			panic(show.Ended(api.EndIndex))
		}
	case api.ICall:
		m.call(int(o.N))
	case api.IBack:
		m.back()
	case api.IOutLow:
		m.Out(api.Low, *a)
	case api.IOutHi:
		m.Out(api.High, *a)
	case api.IInLow:
		*a = m.Take(api.Low)
	case api.IInHi:
		*a = m.Take(api.High)
	case api.IHalt:
		panic(show.Ended(api.EndDone))
	default:
		*a = show.Reckon(o.Op-api.IOp, b, m.registers[o.C])
	}
}

// word answers the word of a memory at that place.
func word(words []int64, at int64) *int64 {
	if !isBelow(at, len(words)) {
		panic(show.Ended(api.EndWrong))
	}
	return &words[at]
}

func (m *machine) call(first int) {
	if len(m.backs) == api.MaxCalls {
		panic(show.Ended(api.EndDeep))
	}
	m.backs = append(m.backs, m.next)
	m.next = first
}

func (m *machine) back() {
	last := len(m.backs) - 1
	if last < 0 {
		panic(show.Ended(api.EndWrong))
	}
	m.next = m.backs[last]
	m.backs = m.backs[:last]
}
