package order

import (
	"slices"

	"dryshod/api"
	"dryshod/check"
	"dryshod/face"
)

// module is what is known of one of a program's texts.
type module struct {
	text    string
	face    api.Face
	imports []string
}

// program is a list of texts; numbers are those of the texts, by their modules' names.
type program struct {
	modules []module
	numbers map[string]int
}

// arrange answers the order of so many texts as there may be, or their first trouble.
func arrange(texts []string) (order []int, trouble api.Trouble) {
	defer func() {
		switch lost := recover().(type) {
		case nil:
		case api.Trouble:
			trouble = lost
		default:
			panic(lost)
		}
	}()
	p := program{numbers: map[string]int{}}
	p.read(texts)
	p.enter()
	p.findImports()
	taken := p.take()
	p.check(taken)
	p.findMain()
	return taken, api.Trouble{}
}

// refuse throws a trouble of the text with that number.
func refuse(number int, code api.Errno, at int) {
	panic(api.Trouble{Module: number, Code: code, At: at})
}

// read makes the texts modules, of which each has a face.
func (p *program) read(texts []string) {
	for number, text := range texts {
		known, imports, fault := face.Of(text)
		if fault.Code != api.OK {
			refuse(number, fault.Code, fault.At)
		}
		p.modules = append(p.modules, module{text, known, imports})
	}
}

// enter makes the modules known by their names. It waits until all are read:
// a later text's fault is told ahead of two names that are alike.
func (p *program) enter() {
	for number, m := range p.modules {
		if _, found := p.numbers[m.face.Module]; found {
			refuse(number, api.ErrTwice, 0)
		}
		p.numbers[m.face.Module] = number
	}
}

func (p *program) findImports() {
	for number, m := range p.modules {
		for i, name := range m.imports {
			if _, found := p.numbers[name]; !found {
				// Imports stand right behind the module's own node.
				refuse(number, api.ErrName, 1+i)
			}
		}
	}
}

// take answers the numbers of all texts, each behind those of its imports.
func (p *program) take() []int {
	var taken []int
	isLeft := func(number int) bool { return !slices.Contains(taken, number) }
	isAwaited := func(name string) bool { return isLeft(p.numbers[name]) }
	mayBe := func(number int) bool {
		return isLeft(number) && !slices.ContainsFunc(p.modules[number].imports, isAwaited)
	}
anew:
	for number := range p.modules {
		if mayBe(number) {
			taken = append(taken, number)
			// The next one may stand ahead of this one.
			goto anew
		}
	}
	for number := range p.modules {
		if isLeft(number) {
			refuse(number, api.ErrKind, 0)
		}
	}
	return taken
}

// check refuses the first text, in the order in which they were taken, that has a fault.
func (p *program) check(taken []int) {
	for _, number := range taken {
		m := p.modules[number]
		if _, fault := check.Check(m.text, p.imported(m)); fault.Code != api.OK {
			refuse(number, fault.Code, fault.At)
		}
	}
}

// imported answers the faces of the modules that m imports.
func (p *program) imported(m module) []api.Face {
	var faces []api.Face
	for _, name := range m.imports {
		faces = append(faces, p.modules[p.numbers[name]].face)
	}
	return faces
}

func (p *program) findMain() {
	number, found := p.numbers["main"]
	if !found || !slices.ContainsFunc(p.modules[number].face.Procs, IsMain) {
		refuse(0, api.ErrName, 0)
	}
}

// IsMain tells whether a program can begin with a procedure of a module's
// face, where all are pub.
func IsMain(proc api.Proc) bool {
	return proc.Name == "main" && len(proc.Params) == 0 && proc.Writes == api.Low && !proc.Gives
}
