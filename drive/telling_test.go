package drive

import (
	"fmt"
	"math/rand"
	"regexp"
	"strings"
	"testing"

	"dryshod/api"
	"dryshod/build"
	"dryshod/machine"
	"dryshod/model"
	"dryshod/order"
)

// teller is a second telling of M1 and M2, by patterns of whole lines.
type teller struct {
	texts  []string
	inputs map[string][]int64
}

var (
	moduleLine = regexp.MustCompile(`(?s)\Amodule .+\z`)
	inputLine  = regexp.MustCompile(`\A(low|high)(?: (?:0|-?[1-9][0-9]{0,5}))*\z`)
	fuelLine   = regexp.MustCompile(`\A(mean|run) (0|[1-9][0-9]{0,5})\z`)
)

// tellScript answers a script line by line.
func tellScript(script string) string {
	lines := strings.Split(script, "\n")
	if lines[len(lines)-1] == "" {
		lines = lines[:len(lines)-1]
	}
	told, all := teller{inputs: map[string][]int64{}}, ""
	for _, line := range lines[:min(40, len(lines))] {
		all += strings.Join(told.line(line), " ") + "\n"
	}
	return all
}

// line answers the words of a line's answer.
func (l *teller) line(line string) []string {
	switch {
	case moduleLine.MatchString(line):
		l.texts = append(l.texts, line)
		return []string{"ok", fmt.Sprint(len(l.texts))}
	case line == "fresh":
		l.texts = l.texts[:0]
		return []string{"ok", "0"}
	case inputLine.MatchString(line):
		words := strings.Fields(line)
		l.inputs[words[0]] = nil
		for _, word := range words[1:] {
			var number int64
			fmt.Sscan(word, &number)
			l.inputs[words[0]] = append(l.inputs[words[0]], number)
		}
		return []string{"ok", fmt.Sprint(len(words) - 1)}
	case line == "check":
		taken, trouble := order.Order(l.texts)
		return l.orBad(trouble, append([]string{"ok"}, words(taken)...))
	case fuelLine.MatchString(line):
		return l.fuel(line)
	}
	return []string{"?"}
}

func (l *teller) fuel(line string) []string {
	var word string
	var fuel int
	fmt.Sscan(line, &word, &fuel)
	if word == "mean" {
		shown, trouble := model.Run(l.texts, l.inputs["low"], l.inputs["high"], fuel)
		return l.orBad(trouble, shownWords(shown))
	}
	image, trouble := build.Build(l.texts)
	if trouble == (api.Trouble{}) {
		shown, _, code := machine.Run(image, l.inputs["low"], l.inputs["high"], fuel)
		return l.orBad(api.Trouble{Code: code}, shownWords(shown))
	}
	return l.orBad(trouble, nil)
}

func (l *teller) orBad(trouble api.Trouble, good []string) []string {
	if trouble == (api.Trouble{}) {
		return good
	}
	return []string{"bad", fmt.Sprint(trouble.Module), fmt.Sprint(int(trouble.Code)), fmt.Sprint(trouble.At)}
}

func words[T any](items []T) (all []string) {
	for _, item := range items {
		all = append(all, fmt.Sprint(item))
	}
	return all
}

func shownWords(shown api.Shown) []string {
	all := []string{strings.Fields("fuel done divided index input deep wrong")[shown.End], "low"}
	all = append(all, words(shown.Low)...)
	all = append(all, "high")
	return append(all, words(shown.High)...)
}

func pick[T any](r *rand.Rand, items ...T) T { return items[r.Intn(len(items))] }

// anyNumber answers mostly a number that a line may have.
func anyNumber(r *rand.Rand) string {
	switch r.Intn(40) {
	case 0:
		return pick(r, "", "-0", "00", "-", "1000000", "-1000000", "01", "+1", "x")
	case 1, 2:
		return pick(r, "-1", "-9", "-999999")
	case 3:
		return pick(r, "999999", "1000", "1001", "90000", "90001")
	case 4, 5, 6:
		return fmt.Sprint(100 + r.Intn(900))
	}
	return fmt.Sprint(r.Intn(20))
}

// anyText answers a module, some of which make programs together.
func anyText(r *rand.Rand) string {
	body := pick(r, "", "", "", "", "", "", "", "x=y;")
	for range r.Intn(9) {
		body += pick(r, "in low x;", "in low x;", "in high y;", "in low a[x];", "out low x;", "out high y;", "out low a[x&3];", "out high y/(x+1);", "x=x+1;", "x=x+2;", "y=y*x;", "if(y){out high x;}",
			"if(x<3){out low x;}else{y=x;}", "while(x){x=x-1;out low x;}", "while(y){y=y-1;}", "do more();", "out low 8/x;", "a[x]=x;", "out low a[x+1];")
	}
	variables := "low x;high y;low a[3];"
	switch r.Intn(8) {
	case 0:
		return "module a;pub low z;pub proc p()low{z=z+1;out low z;}"
	case 1:
		return "module b;import a;pub proc q()low{do a.p();do a.p();}"
	case 2:
		return "module main;import a;import b;" + variables + "proc more()low{do b.q();}pub proc main()low{" + body + "}"
	case 3:
		return "module main;import a;" + variables + "proc more()low{do a.p();}pub proc main()low{" + body + "}"
	case 4:
		return "module " + pick(r, "", " ", "a;", "b;", "main;", "main", "c;import b;", "\xff", "a;low x[65];")
	}
	return "module main;" + variables + "proc more()low{x=x+1;" + pick(r, "", "do more();") + "}pub proc main()low{" + body + "}"
}

// anyLine answers a line that mostly is of a kind that is known.
func anyLine(r *rand.Rand) string {
	switch r.Intn(20) {
	case 0:
		return "fresh"
	case 1, 2:
		return "check"
	case 3, 4, 5, 6, 7:
		return anyText(r)
	case 8, 9, 10, 11:
		line := pick(r, "low", "high")
		for range r.Intn(8) {
			line += " " + anyNumber(r)
		}
		return line
	case 12, 13, 14, 15:
		return "mean " + anyNumber(r)
	case 16, 17, 18:
		return "run " + anyNumber(r) + pick(r, "", "", "00")
	}
	return pick(r, "", " ", "?", "module", "low ", "mean", "run", "mean 1 2", "fresh ", "quit")
}

// anyScript answers lines, some of whose bytes are changed now and then.
func anyScript(r *rand.Rand) string {
	var lines []string
	for range r.Intn(50) {
		lines = append(lines, anyLine(r))
	}
	script := []byte(strings.Join(lines, "\n") + pick(r, "", "\n", "\n\n"))
	if len(script) > 0 && r.Intn(3) == 0 {
		for range 1 + r.Intn(5) {
			script[r.Intn(len(script))] = pick(r, '\n', ' ', '-', '0', '7', ';', 'm', '\r', byte(r.Intn(256)))
		}
	}
	return string(script)
}

// M1, M2, M3: scripts made at random are answered as the second telling does;
// each kind of answer is among those.
func TestAgainstTelling(t *testing.T) {
	r := rand.New(rand.NewSource(13))
	seen := map[string]int{}
	for range 4000 {
		script := anyScript(r)
		got, want := Play(script), tellScript(script)
		if got != want {
			t.Fatalf("Play(%q) = %q; want %q", script, got, want)
		}
		for line := range strings.Lines(got) {
			seen[strings.Fields(line)[0]]++
		}
		if r.Intn(10) == 0 {
			tryBeginnings(t, script)
		}
	}
	for _, word := range strings.Fields("? ok bad fuel done divided index input deep") {
		if seen[word] < 20 {
			t.Errorf("only %d answers begin with %s", seen[word], word)
		}
	}
}

// L2, by scripts: run tells what mean tells, with 60 times as much fuel and 60.
func TestMeanAndRun(t *testing.T) {
	r := rand.New(rand.NewSource(14))
	ends := map[string]int{}
	for range 1500 {
		n := r.Intn(300)
		lines := []string{anyText(r), "module a;pub low z;pub proc p()low{z=z+1;out low z;}", "module b;import a;pub proc q()low{do a.p();do a.p();}", "low 2", "high 3",
			fmt.Sprint("mean ", n), fmt.Sprint("run ", 60*n+60)}
		answers := strings.Split(Play(strings.Join(lines, "\n")), "\n")
		mean, run := answers[5], answers[6]
		end := strings.Fields(mean)[0]
		ends[end]++
		if mean != run && end != "fuel" {
			t.Errorf("%q: %q, but %q", lines, mean, run)
		}
	}
	if ends["done"] < 50 || ends["index"] < 10 || ends["input"] < 10 || ends["divided"] < 10 || ends["deep"] < 10 || ends["bad"] < 10 {
		t.Errorf("mean tells %v", ends)
	}
}

// P1: scripts that are hardly any are answered, too.
func TestAnyBytes(t *testing.T) {
	r := rand.New(rand.NewSource(15))
	for range 20000 {
		script := make([]byte, r.Intn(60))
		for at := range script {
			script[at] = pick(r, '\n', ' ', '-', '0', '9', byte(r.Intn(256)))
		}
		text := pick(r, "low ", "high", "mean ", "run ", "module ", "") + string(script)
		if got, want := Play(text), tellScript(text); got != want {
			t.Fatalf("Play(%q) = %q; want %q", text, got, want)
		}
	}
}
