package drive

import (
	"slices"
	"strconv"
	"strings"
	"testing"

	"dryshod/api"
)

const (
	// echo lets out what comes in: one number of each input.
	echo = "module main;pub proc main()low{low x=0;high y=0;in low x;out low x;in high y;out high y;}"
	// still does nothing at all.
	still = "module main;pub proc main()low{}"
)

// tryPlay plays lines, each with a byte 10 behind it, and asks for these answers.
func tryPlay(t *testing.T, lines []string, want ...string) {
	t.Helper()
	script := strings.Join(lines, "\n") + "\n"
	if got := Play(script); got != strings.Join(want, "\n")+"\n" {
		t.Errorf("Play(%.500q) = %.500q; want %.500q", script, got, want)
	}
}

// tryLast plays lines, and asks for the answer to the last one.
func tryLast(t *testing.T, want string, lines ...string) {
	t.Helper()
	script := strings.Join(lines, "\n") + "\n"
	answers := strings.Split(Play(script), "\n")
	if len(answers) != len(lines)+1 || answers[len(lines)] != "" || answers[len(lines)-1] != want {
		t.Errorf("Play(%.500q) = %.500q; want %q as the last answer", script, answers, want)
	}
}

// tryOther asks for ? of a line, both ahead of all others and behind a program
// and inputs, of which it changes nothing.
func tryOther(t *testing.T, line string) {
	t.Helper()
	tryLast(t, other, line)
	tryPlay(t, []string{echo, "low 3", "high 4", line, "check", "mean 99", echo}, "ok 1", "ok 1", "ok 1", "?", "ok 0", "done low 3 high 4", "ok 2")
}

// M1: what a line is.
func TestM1Lines(t *testing.T) {
	for script, want := range map[string]string{
		"":                           "",
		"\n":                         "?\n",
		"\n\n":                       "?\n?\n",
		"fresh":                      "ok 0\n",
		"fresh\n":                    "ok 0\n",
		"fresh\n\n":                  "ok 0\n?\n",
		"\nfresh":                    "?\nok 0\n",
		"fresh\nlow 1":               "ok 0\nok 1\n",
		"fresh\nlow 1\n":             "ok 0\nok 1\n",
		"fresh\n ":                   "ok 0\n?\n",
		"fresh\n\nlow 1\n\n\nhigh\n": "ok 0\n?\nok 1\n?\n?\nok 0\n",
		"fresh\r\nfresh":             "?\nok 0\n",
		"fresh\x00\nfresh\x00":       "?\n?\n",
		"module \n":                  "?\n",
		"module a;":                  "ok 1\n",
		"module a;\nmodule b;":       "ok 1\nok 2\n",
	} {
		if got := Play(script); got != want {
			t.Errorf("Play(%q) = %q; want %q", script, got, want)
		}
	}
}

// M1: at most 40 lines count, whatever they are, and whatever is behind them.
func TestM1Forty(t *testing.T) {
	for _, line := range []string{"fresh", "", "?", "low 1 2", still} {
		for _, count := range []int{1, 39, 40, 41, 42, 80, 1000} {
			for _, end := range []string{"", "\n", "\n\n", "\nx"} {
				script := strings.Repeat(line+"\n", count-1) + line + end
				// Each byte 10 ends a line, what is behind the last one is a line if it is not empty.
				want := strings.Count(script, "\n")
				if !strings.HasSuffix(script, "\n") && script != "" {
					want++
				}
				if got := strings.Count(Play(script), "\n"); got != min(want, 40) {
					t.Errorf("%d times %q, and %q, have %d answers; want %d", count, line, end, got, min(want, 40))
				}
			}
		}
	}
	lines := slices.Repeat([]string{""}, 38)
	script := strings.Join(append(lines, still, "check", "check", "fresh"), "\n")
	if got, want := Play(script), strings.Repeat("?\n", 38)+"ok 1\nok 0\n"; got != want {
		t.Errorf("Play(%q) = %q; want %q", script, got, want)
	}
}

// M1: there are no texts and no inputs at first, whatever was played ahead.
func TestM1First(t *testing.T) {
	for range 2 {
		tryPlay(t, []string{"check", "mean 5", "run 5"}, "bad 0 1 0", "bad 0 1 0", "bad 0 1 0")
		tryPlay(t, []string{echo, "mean 99", "run 999"}, "ok 1", "input low high", "input low high")
		tryPlay(t, []string{"low 7", echo, "mean 99", "run 999"}, "ok 1", "ok 1", "input low 7 high", "input low 7 high")
		tryPlay(t, []string{"high 7", echo, "mean 99", "run 999"}, "ok 1", "ok 1", "input low high", "input low high")
	}
}

// M1: numbers from the least to the greatest.
func TestM1Numbers(t *testing.T) {
	text := "module main;pub proc main()low{low x=0-9223372036854775807;out low x-1;out low x;out low 0-1;out low 0;out high 0-10;out low 10;out high 9223372036854775807;}"
	want := "done low -9223372036854775808 -9223372036854775807 -1 0 10 high -10 9223372036854775807"
	tryPlay(t, []string{text, "mean 99", "run 999"}, "ok 1", want, want)
}

// M2: texts are whole lines, one behind the other.
func TestM2Module(t *testing.T) {
	tryPlay(t, []string{"module a;", "module a;", "module main;", "module  "}, "ok 1", "ok 2", "ok 3", "ok 4")
	tryPlay(t, []string{"module m", "check"}, "ok 1", "bad 0 2 8")
	tryPlay(t, []string{"module \xff", "check"}, "ok 1", "bad 0 2 7")
	tryPlay(t, []string{"module m;\x00", "check"}, "ok 1", "bad 0 2 9")
	tryPlay(t, []string{"module m;\r", "check"}, "ok 1", "bad 0 2 9")
	tryPlay(t, []string{still + "#a note fresh  ", "check"}, "ok 1", "ok 0")
	tryPlay(t, []string{"module  main ; pub proc main ( ) low { }  ", "check"}, "ok 1", "ok 0")
	room := still + strings.Repeat(" ", api.MaxText-len(still))
	tryPlay(t, []string{room, "check", "fresh", room + " ", "check"}, "ok 1", "ok 0", "ok 0", "ok 1", "bad 0 1 0")
	tryPlay(t, []string{"module " + strings.Repeat("x", 1<<20), "mean 1"}, "ok 1", "bad 0 1 0")
	for _, line := range []string{"module", "module ", "modulem;", "modules m;", " module m;", "Module m;", "module\tm;", "modul e m;", "?module m;"} {
		tryOther(t, line)
	}
}

// M2: there may be more texts than a program has.
func TestM2ManyTexts(t *testing.T) {
	lines, want := []string{still}, []string{"ok 1"}
	for count := 2; count <= 39; count++ {
		lines = append(lines, "module m"+strconv.Itoa(count)+";")
		want = append(want, "ok "+strconv.Itoa(count))
	}
	tryPlay(t, append(lines, "check"), append(want, "bad 0 1 0")...)
	tryPlay(t, append(lines[:6:6], "check", "run 9"), append(want[:6:6], "ok 0 1 2 3 4 5", "done low high")...)
	tryPlay(t, append(lines[:7:7], "check", "mean 9", "run 9"), append(want[:7:7], "bad 0 1 0", "bad 0 1 0", "bad 0 1 0")...)
}

// M2: fresh takes the texts away, not the inputs.
func TestM2Fresh(t *testing.T) {
	tryPlay(t, []string{"fresh", "fresh"}, "ok 0", "ok 0")
	tryPlay(t, []string{"low 1", "high 2", "module a;", echo, "fresh", "check", echo, "check", "mean 99"},
		"ok 1", "ok 1", "ok 1", "ok 2", "ok 0", "bad 0 1 0", "ok 1", "ok 0", "done low 1 high 2")
	for _, line := range []string{"fresh ", " fresh", "fresh 0", "Fresh", "FRESH", "fres", "freshh", "fresh\t"} {
		tryOther(t, line)
	}
}

// M2: the last line of an input is the whole input.
func TestM2Inputs(t *testing.T) {
	tryPlay(t, []string{"low", "high", "low 0", "high 0", "low -1 1", "high 999999 -999999 0"}, "ok 0", "ok 0", "ok 1", "ok 1", "ok 2", "ok 3")
	tryPlay(t, []string{echo, "low 1 2", "high 3 4", "low 5", "mean 99", "high -6", "mean 99", "run 999", "low", "mean 99", "run 999"},
		"ok 1", "ok 2", "ok 2", "ok 1", "done low 5 high 3", "ok 1", "done low 5 high -6", "done low 5 high -6", "ok 0", "input low high", "input low high")
	all := "module main;pub proc main()low{low x=0;high y=0;while(1){in low x;out low x;in high y;out high y;}}"
	want := "input low 0 1 -1 9 10 -10 999999 -999999 100000 high 7 7 0 -8 90 -909 -999999 999999"
	tryPlay(t, []string{all, "low 0 1 -1 9 10 -10 999999 -999999 100000", "high 7 7 0 -8 90 -909 -999999 999999", "mean 999", "run 9999"}, "ok 1", "ok 9", "ok 8", want, want)
}

// wrongNumbers are no numbers, neither of inputs nor of fuel.
func wrongNumbers() []string {
	return []string{
		"", "-", "+", "+1", "00", "01", "007", "-0", "-00", "-01", "--1", "-+1", "1-", "1000000", "-1000000", "9999999", "99999999999999999999", "-99999999999999999999",
		"18446744073709551617", "x", "1x", "x1", "0x1", "1e1", "1.0", "1_0", "1,", "1\t", "\t1", "1\r", "1\x00", "\xff", "\u0661", "-\u0661", "\u22121", "low", "?",
	}
}

// M2: lines of inputs that are none.
func TestM2InputsOther(t *testing.T) {
	for _, number := range wrongNumbers() {
		for _, word := range []string{"low", "high"} {
			for _, line := range []string{" " + number, " 1 " + number, " " + number + " 1", " 1 " + number + " 1"} {
				tryOther(t, word+line)
			}
		}
	}
	for _, line := range []string{"low1", " low 1", "low\t1", "Low 1", "lows 1", "highh", "high1", "low-1", "low  1", "high 1  2", "high 1 "} {
		tryOther(t, line)
	}
}

// M2: inputs that are too long are laid down, and refused where they are used:
// by mean ahead of Order's trouble, by run behind Build's.
func TestM2LongInputs(t *testing.T) {
	most, long := strings.Repeat(" 1", api.MaxInput), strings.Repeat(" 1", api.MaxInput+1)
	for _, word := range []string{"low", "high"} {
		tryPlay(t, []string{still, word + most, "check", "mean 9", "run 9"}, "ok 1", "ok 1000", "ok 0", "done low high", "done low high")
		tryPlay(t, []string{still, word + long, "check", "mean 9", "run 9"}, "ok 1", "ok 1001", "ok 0", "bad 0 1 0", "bad 0 1 0")
		tryPlay(t, []string{"module m;", word + long, "mean 9", "mean 1001", "run 9", "run 90001"}, "ok 1", "ok 1001", "bad 0 1 0", "bad 0 6 0", "bad 0 4 0", "bad 0 4 0")
		tryPlay(t, []string{still, word + long, word, "mean 9", "run 9"}, "ok 1", "ok 1001", "ok 0", "done low high", "done low high")
		tryPlay(t, []string{still, word + long, "run 90001"}, "ok 1", "ok 1001", "bad 0 6 0")
	}
}

// M2: the order, or each kind of Order's trouble; mean and run tell it, too.
func TestM2Check(t *testing.T) {
	uses := "module main;import a;import b;pub proc main()low{out low a.x;}"
	for _, one := range []struct {
		want  string
		texts []string
	}{
		{"ok 0", []string{still}},
		{"ok 1 0", []string{"module main;import a;pub proc main()low{}", "module a;"}},
		{"ok 2 1 0", []string{uses, "module a;import b;pub low x;", "module b;"}},
		{"ok 0 3 2 1 4", []string{"module c;", uses, "module a;import b;pub low x;", "module b;", "module d;"}},
		{"bad 0 1 0", nil},
		{"bad 1 2 7", []string{uses, "module ;", "module b;"}},
		{"bad 1 6 1", []string{still, "module a;low x[0];"}},
		{"bad 2 5 0", []string{uses, "module a;", "module a;"}},
		{"bad 0 4 2", []string{uses, "module a;"}},
		{"bad 1 3 0", []string{still, "module a;import b;", "module b;import a;"}},
		{"bad 1 7 5", []string{still, "module a;high x;low y;proc p()low{y=x;}"}},
		{"bad 0 4 6", []string{uses, "module a;", "module b;"}},
		{"bad 0 4 0", []string{"module a;", "module b;"}},
	} {
		tryLast(t, one.want, append(one.texts[:len(one.texts):len(one.texts)], "check")...)
		for _, line := range []string{"mean 99", "run 999"} {
			want := one.want
			if strings.HasPrefix(want, "ok") {
				want = "done low high"
				if slices.Contains(one.texts, uses) && len(one.texts) > 2 {
					want = "done low 0 high"
				}
			}
			tryLast(t, want, append(one.texts[:len(one.texts):len(one.texts)], line)...)
		}
	}
	for _, line := range []string{"check ", " check", "check 0", "Check", "checks", "chec"} {
		tryOther(t, line)
	}
}

// M2: how runs end, with what has come out up to then.
func TestM2Ends(t *testing.T) {
	for _, one := range []struct{ want, body string }{
		{"done low 1 high 2", "out low 1;out high 2;"},
		{"done low high 2 3", "out high 2;out high 3;"},
		{"done low 1 2 high", "out low 1;out low 2;"},
		{"done low high", ""},
		{"fuel low 1 high 2", "out low 1;out high 2;while(1){}out low 3;"},
		{"divided low 1 high 2", "out low 1;out high 2;out low 1/0;out low 3;"},
		{"divided low high", "out low 1%0;"},
		{"index low 1 high 2", "out low 1;out high 2;out low a[3];out low 3;"},
		{"index low high", "a[0-1]=1;"},
		{"input low -5 high 6", "low x=0;high y=0;in low x;out low x;in high y;out high y;in high y;out low 3;"},
		{"input low -5 high", "low x=0;in low x;out low x;in low x;"},
		{"deep low 1 high 2", "out low 1;out high 2;do deeper();out low 3;"},
	} {
		text := "module main;low a[3];proc deeper()low{do deeper();}pub proc main()low{" + one.body + "}"
		tryPlay(t, []string{text, "low -5", "high 6", "mean 900", "run 54060"}, "ok 1", "ok 1", "ok 1", one.want, one.want)
	}
	for end, word := range []string{"fuel", "done", "divided", "index", "input", "deep", "wrong"} {
		if got := tellShown(api.Shown{End: end, Low: []int64{4, -4}, High: []int64{0}, UsedLow: 3, Steps: 9}); got != word+" low 4 -4 high 0" {
			t.Errorf("the end %d is told as %q", end, got)
		}
	}
}

// M2: fuel from the least to the greatest, and beyond what a run may have.
func TestM2Fuel(t *testing.T) {
	loop := "module main;low x;pub proc main()low{while(1){}}"
	for line, want := range map[string]string{
		"mean 0": "fuel low high", "mean 1": "fuel low high", "mean 1000": "fuel low high", "mean 1001": "bad 0 6 0", "mean 90000": "bad 0 6 0", "mean 999999": "bad 0 6 0",
		"run 0": "fuel low high", "run 1": "fuel low high", "run 1001": "fuel low high", "run 90000": "fuel low high", "run 90001": "bad 0 6 0", "run 999999": "bad 0 6 0",
	} {
		tryLast(t, want, loop, line)
	}
	counts := "module main;low x;pub proc main()low{x=1;out low 1;out low 2;}"
	for fuel, want := range []string{"fuel low high", "fuel low high", "fuel low high", "fuel low high", "fuel low 1 high", "fuel low 1 high", "done low 1 2 high", "done low 1 2 high"} {
		tryLast(t, want, counts, "mean "+strconv.Itoa(fuel))
	}
	tryPlay(t, []string{"module m;", "mean 1000", "mean 1001", "run 90000", "run 90001"}, "ok 1", "bad 0 4 0", "bad 0 6 0", "bad 0 4 0", "bad 0 4 0")
	tryPlay(t, []string{"mean 1000", "mean 1001", "run 90000", "run 90001"}, "bad 0 1 0", "bad 0 6 0", "bad 0 1 0", "bad 0 1 0")
}

// M2: lines that run nothing.
func TestM2FuelOther(t *testing.T) {
	for _, word := range []string{"mean", "run"} {
		tryOther(t, word)
		for _, number := range append(wrongNumbers(), "-1", "-999999", "1 1", "1 ", " 1", "0 0") {
			tryOther(t, word+" "+number)
		}
	}
	for _, line := range []string{"mean1", "run1", " mean 1", " run 1", "means 1", "Run 1", "run\t1", "mean\t1"} {
		tryOther(t, line)
	}
}

// M2: lines that are none, and runs that leave all as it was.
func TestM2Other(t *testing.T) {
	for _, line := range []string{"", " ", "?", "ok", "ok 1", "bad", "quit", "0", "low high", "#", "#fresh", "\x00", "\xff\xfe", "\t", "\r", strings.Repeat(" ", 1<<16), strings.Repeat("low ", 1<<16)} {
		tryOther(t, line)
	}
	tryPlay(t, []string{echo, "low 1", "high 2", "mean 99", "run 999", "mean 3", "run 5", "check", "mean 99", "run 999"},
		"ok 1", "ok 1", "ok 1", "done low 1 high 2", "done low 1 high 2", "fuel low high", "fuel low high", "ok 0", "done low 1 high 2", "done low 1 high 2")
}

// M3, P3: what is played ahead is answered alike, whatever is behind it.
func tryBeginnings(t *testing.T, script string) {
	t.Helper()
	whole := Play(script)
	if again := Play(script); again != whole {
		t.Errorf("Play(%.500q) = %.500q, and then %.500q", script, whole, again)
	}
	for at := range len(script) {
		if script[at] != '\n' {
			continue
		}
		if part := Play(script[:at+1]); !strings.HasPrefix(whole, part) || strings.Count(part, "\n") != min(40, strings.Count(script[:at+1], "\n")) {
			t.Errorf("Play(%.500q) = %.500q; that of its first %d bytes is %.500q", script, whole, at+1, part)
		}
	}
}

func TestM3(t *testing.T) {
	lines := []string{"check", echo, "low 1 2", "high -3", "check", "mean 99", "run 999", "", "fresh", "check", "module a;", "mean 5", "run 5", "low 007"}
	for _, end := range []string{"", "\n", "\n\n", "\nmodule", "\nmodule main;", "\nfresh"} {
		tryBeginnings(t, strings.Join(lines, "\n")+end)
		tryBeginnings(t, strings.Join(slices.Repeat(lines, 4), "\n")+end)
	}
	tryBeginnings(t, "")
	tryBeginnings(t, strings.Repeat("\n", 100))
	tryBeginnings(t, strings.Repeat("module m;\n", 50))
}
