package model

import (
	"slices"
	"testing"

	"dryshod/api"
)

// isDry tells whether two runs with one input low show nothing of their inputs high.
func isDry(one, two api.Shown) bool {
	if one.End == api.EndDone && two.End == api.EndDone {
		return slices.Equal(one.Low, two.Low) && one.UsedLow == two.UsedLow
	}
	return isBeginning(one.Low, two.Low) || isBeginning(two.Low, one.Low)
}

// tryDry runs a program without trouble with two inputs high and two fuels.
func tryDry(t *testing.T, texts []string, low []int64, highs [2][]int64, fuels [2]int) (one, two api.Shown) {
	t.Helper()
	one, trouble := Run(texts, low, highs[0], fuels[0])
	two, _ = Run(texts, low, highs[1], fuels[1])
	if trouble != (api.Trouble{}) || !isDry(one, two) {
		t.Fatalf("%q with %v: with %v and %v it shows %v, %v; %v", texts, low, highs, fuels, one, two, trouble)
	}
	return one, two
}

// G4: what each of these does with its input high is not to be seen low.
func TestG4(t *testing.T) {
	low := l(1, 2, 3, 4)
	for _, stats := range []string{
		"in high h;if(h){out high 1;}out low 2;", "in high h;while(h){h=h-1;}out low 2;", "in high h;out high hs[h];out low 2;",
		"in high h;h=1/h;out low 2;", "out low 1;in high h;out low 2;in high h;out low 3;in high h;out low 4;",
		"in high h;hs[h]=1;out low l;in high hs[h];in low l;out low l;", "in low l;in high h;while(h){}in low l;out low l;",
		"in high h;low x=1;if(h){high x=h;x=x+1;}out low x;", "in high h;do both(1,h);in low ls[1];out low ls[1];",
		"in low h;in low l;out low l;if(h<l){in high h;}out low ls[0];", "in high h;if(h){h=seven();}else{do seven();}out low seven();",
	} {
		for _, one := range [][]int64{nil, l(0), l(1, 0, 5), l(2, 1, 1), l(-1, 7), l(1<<63-1, -1<<63, 3)} {
			for _, two := range [][]int64{l(0, 0, 0), l(1), l(1, 1, 1), l(50, 2)} {
				for _, fuel := range []int{0, 3, 6, 10, 40, api.MaxSteps} {
					tryDry(t, inMain(stats), low, [2][]int64{one, two}, [2]int{fuel, api.MaxSteps})
				}
			}
		}
	}
}

// G4: many programs, of which what comes out high hangs on the input high.
func TestG4Programs(t *testing.T) {
	shown, done, other := 0, 0, 0
	programs(t, 4, 500, func(m *maker, texts []string) {
		for range 6 {
			one, two := tryDry(t, texts, m.input(), [2][]int64{m.input(), m.input()}, [2]int{m.fuel(), m.fuel()})
			if len(one.Low) == 0 || len(two.Low) == 0 {
				continue
			}
			shown++
			if one.End == api.EndDone && two.End == api.EndDone {
				done++
			}
			if !slices.Equal(one.High, two.High) {
				other++
			}
		}
	})
	if shown < 800 || done < 400 || other < 200 {
		t.Errorf("%d runs show something low, %d are done, %d show another high: too few", shown, done, other)
	}
}

// By E5 what a loop asks is in the loop's own context: G4 does not hold of
// this one, which does as G2 says. README.md tells of it.
func TestG4Open(t *testing.T) {
	texts := []string{"module main;high x;proc f()low gives high{out low 1;x=x-1;return x;}pub proc main()low{in high x;while(f()){}}"}
	tryRun(t, texts, nil, l(1), api.Shown{End: api.EndDone, Low: l(1), UsedHigh: 1, Steps: 2 + 9})
	tryRun(t, texts, nil, l(3), api.Shown{End: api.EndDone, Low: l(1, 1, 1), UsedHigh: 1, Steps: 2 + 3*9})
}
