package order

import (
	"math/rand"
	"slices"
	"strconv"
	"testing"

	"dryshod/api"
)

// sketch is a module whose faults are known as it is made: the second telling
// works on sketches alone, and knows no texts.
type sketch struct {
	name    string
	imports []string
	isBad   bool   // it declares its x twice
	label   string // of its variable v
	isPub   bool   // its variable v is
	main    int    // which of mains it has
}

// mains are procedures, of which a program can begin with the first one alone.
func mains() []string {
	return []string{
		"pub proc main()low{}", "", "proc main()low{}", "pub proc main(low y)low{}",
		"pub proc main()high{}", "pub proc main()low gives low{return 1;}", "pub low main;",
	}
}

// text has v, x, and a procedure that lets the v of each import come to x.
func (s sketch) text() string {
	text := "module " + s.name + ";"
	for _, name := range s.imports {
		text += "import " + name + ";"
	}
	if s.isPub {
		text += "pub "
	}
	text += s.label + " v;low x;"
	if s.isBad {
		text += "low x;"
	}
	text += "proc p()low{"
	for _, name := range s.imports {
		text += "x=" + name + ".v;"
	}
	return text + "}" + mains()[s.main]
}

// rare is true once in so many times.
func rare(r *rand.Rand, of int) bool { return r.Intn(of) == 0 }

func anySketch(r *rand.Rand, number, count int) sketch {
	s := sketch{name: nameOf(number), isBad: rare(r, 60), label: "low", isPub: !rare(r, 25)}
	if rare(r, 25) {
		s.label = "high"
	}
	if rare(r, 40) {
		s.name = nameOf(r.Intn(count))
	}
	if rare(r, 4) {
		s.main = r.Intn(len(mains()))
	}
	return s
}

// nameOf answers the name of the text that has it mostly.
func nameOf(number int) string {
	if number == 0 {
		return "main"
	}
	return "m" + strconv.Itoa(number)
}

// anySketches answers modules in any order, whose imports go round about now
// and then, or are of none.
func anySketches(r *rand.Rand) []sketch {
	count := 1 + r.Intn(api.MaxModules)
	var l []sketch
	isRound := rare(r, 3)
	for number := range count {
		s := anySketch(r, number, count)
		for other := range count {
			if (other > number || isRound && rare(r, 3)) && nameOf(other) != s.name && rare(r, 2) {
				s.imports = append(s.imports, nameOf(other))
			}
		}
		if len(s.imports) < api.MaxModules-1 && rare(r, 40) {
			s.imports = append(s.imports, "z")
		}
		r.Shuffle(len(s.imports), func(i, j int) { s.imports[i], s.imports[j] = s.imports[j], s.imports[i] })
		l = append(l, s)
	}
	r.Shuffle(count, func(i, j int) { l[i], l[j] = l[j], l[i] })
	return l
}

func find(l []sketch, name string) int {
	return slices.IndexFunc(l, func(s sketch) bool { return s.name == name })
}

// tellF1 answers the first trouble of those of F1.
func tellF1(l []sketch) api.Trouble {
	for number, s := range l {
		if s.isBad {
			return api.Trouble{Module: number, Code: api.ErrTwice, At: len(s.imports) + 3}
		}
	}
	for number, s := range l {
		if find(l, s.name) < number {
			return api.Trouble{Module: number, Code: api.ErrTwice}
		}
	}
	for number, s := range l {
		for i, name := range s.imports {
			if find(l, name) < 0 {
				return api.Trouble{Module: number, Code: api.ErrName, At: i + 1}
			}
		}
	}
	return api.Trouble{}
}

// reaches tells whether some way of at least one import, and at most so many,
// leads from one module to another.
func reaches(l []sketch, from, to, most int) bool {
	for _, name := range l[from].imports {
		next := find(l, name)
		if next == to || most > 1 && reaches(l, next, to, most-1) {
			return true
		}
	}
	return false
}

// isRound tells whether a module comes to itself by its imports.
func isRound(l []sketch, number int) bool { return reaches(l, number, number, len(l)) }

// tellLeft answers the first module that can never be taken: it goes round
// itself, or leads to one that does.
func tellLeft(l []sketch) (number int, found bool) {
	for number := range l {
		for other := range l {
			if isRound(l, other) && (other == number || reaches(l, number, other, len(l))) {
				return number, true
			}
		}
	}
	return 0, false
}

// isOrder tells whether each module stands behind all that it imports.
func isOrder(l []sketch, order []int) bool {
	for i, number := range order {
		for _, name := range l[number].imports {
			if !slices.Contains(order[:i], find(l, name)) {
				return false
			}
		}
	}
	return true
}

// tellOrder answers the first one of all orders, as words stand in a
// dictionary: at each place the least number that there can be is the one
// that is taken first. All orders are tried that begin so.
func tellOrder(l []sketch, begin []int) []int {
	if len(begin) == len(l) {
		if isOrder(l, begin) {
			return begin
		}
		return nil
	}
	for number := range l {
		if slices.Contains(begin, number) {
			continue
		}
		if order := tellOrder(l, append(slices.Clone(begin), number)); order != nil {
			return order
		}
	}
	return nil
}

// tellCheck answers the first fault of a module in the words of chapter 5.
func tellCheck(l []sketch, number int) api.Trouble {
	// The module, its imports, v, x, p, its block; then three nodes for each NSet.
	at := len(l[number].imports) + 5
	for i, name := range l[number].imports {
		other := l[find(l, name)]
		switch {
		case !other.isPub:
			return api.Trouble{Module: number, Code: api.ErrName, At: at + 3*i + 2}
		case other.label == "high":
			return api.Trouble{Module: number, Code: api.ErrLabel, At: at + 3*i}
		}
	}
	return api.Trouble{}
}

// tell answers what Order is to answer, and which promise says so.
func tell(l []sketch) (order []int, trouble api.Trouble, why string) {
	if trouble := tellF1(l); trouble.Code != api.OK {
		return nil, trouble, "F1"
	}
	if number, found := tellLeft(l); found {
		return nil, api.Trouble{Module: number, Code: api.ErrKind}, "F2"
	}
	order = tellOrder(l, nil)
	for _, number := range order {
		if trouble := tellCheck(l, number); trouble.Code != api.OK {
			return nil, trouble, "F3 check"
		}
	}
	if number := find(l, "main"); number < 0 || l[number].main != 0 {
		return nil, api.Trouble{Code: api.ErrName}, "F3 main"
	}
	return order, api.Trouble{}, "order"
}

// F1 to F3: many programs, held against the second telling.
func TestTelling(t *testing.T) {
	r := rand.New(rand.NewSource(6))
	seen := map[string]int{}
	for range 20000 {
		l := anySketches(r)
		var texts []string
		for _, s := range l {
			texts = append(texts, s.text())
		}
		order, trouble := Order(texts)
		want, wantTrouble, why := tell(l)
		if trouble != wantTrouble || !slices.Equal(order, want) {
			t.Fatalf("Order(%q) = %v, %v; want %v, %v", texts, order, trouble, want, wantTrouble)
		}
		seen[why]++
		if why == "order" && !slices.IsSorted(order) {
			seen["another order"]++
		}
	}
	for _, why := range []string{"F1", "F2", "F3 check", "F3 main", "order", "another order"} {
		if seen[why] < 500 {
			t.Errorf("%s was met %d times only", why, seen[why])
		}
	}
}

// F2: each program of three modules, whatever they import of one another.
func TestF2All(t *testing.T) {
	for bits := range 64 {
		var l []sketch
		var texts []string
		for number := range 3 {
			s := sketch{name: nameOf(number), label: "low", isPub: true}
			for i, other := range []int{(number + 1) % 3, (number + 2) % 3} {
				if bits>>(2*number+i)&1 == 1 {
					s.imports = append(s.imports, nameOf(other))
				}
			}
			l = append(l, s)
			texts = append(texts, s.text())
		}
		order, trouble := Order(texts)
		if want, wantTrouble, _ := tell(l); trouble != wantTrouble || !slices.Equal(order, want) {
			t.Errorf("Order(%q) = %v, %v; want %v, %v", texts, order, trouble, want, wantTrouble)
		}
	}
}

// P1: rows of bytes that mean nothing, or nearly something.
func TestAnyTexts(t *testing.T) {
	r := rand.New(rand.NewSource(8))
	for range 5000 {
		l := anySketches(r)
		var texts []string
		for _, s := range l {
			text := []byte(s.text())
			for range r.Intn(3) {
				text[r.Intn(len(text))] = byte(r.Intn(256))
			}
			texts = append(texts, string(text[:len(text)-r.Intn(2)*r.Intn(len(text))]))
		}
		order, trouble := Order(texts)
		if (trouble.Code == api.OK) != (len(order) == len(texts)) || trouble.Code != api.OK && len(order) > 0 {
			t.Fatalf("Order(%q) = %v, %v", texts, order, trouble)
		}
	}
}
