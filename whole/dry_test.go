package whole

import (
	"slices"
	"testing"

	"dryshod/api"
)

// isDry tells whether two runs with one input low show nothing of their inputs high.
func isDry(one, two api.Shown) bool {
	if one.End == api.EndDone && two.End == api.EndDone {
		return slices.Equal(one.Low, two.Low) && one.UsedLow == two.UsedLow
	}
	return isBeginning(one.Low, two.Low) || isBeginning(two.Low, one.Low)
}

// tryDry runs a program without trouble with two inputs high and two fuels.
func tryDry(t *testing.T, texts []string, low []int64, highs [2][]int64, fuels [2]int) (one, two api.Shown) {
	t.Helper()
	one, two = meant(t, texts, low, highs[0], fuels[0]), meant(t, texts, low, highs[1], fuels[1])
	if !isDry(one, two) {
		t.Fatalf("%q with %v: with %v and %v it shows %v, %v", texts, low, highs, fuels, one, two)
	}
	return one, two
}

// tryDryOrders runs a program's image likewise; of the low words that two runs
// leave nothing high is to be seen, either.
func tryDryOrders(t *testing.T, image api.Image, low []int64, highs [2][]int64, fuels [2]int) {
	t.Helper()
	one, oneWords := done(t, image, low, highs[0], fuels[0])
	two, twoWords := done(t, image, low, highs[1], fuels[1])
	areDone := one.End == api.EndDone && two.End == api.EndDone
	if !isDry(one, two) || areDone && !slices.Equal(oneWords, twoWords) {
		t.Fatalf("%v with %v: with %v and %v it shows %v, %v, and leaves %v, %v", image, low, highs, fuels, one, two, oneWords, twoWords)
	}
}

// G4, L4: what each of these does with its input high is not to be seen low.
func TestG4(t *testing.T) {
	low := l(1, 2, 3, 4)
	for _, stats := range []string{
		"in high h;if(h){out high 1;}out low 2;", "in high h;while(h){h=h-1;}out low 2;", "in high h;out high hs[h];out low 2;",
		"in high h;h=1/h;out low 2;", "out low 1;in high h;out low 2;in high h;out low 3;in high h;out low 4;",
		"in high h;hs[h]=1;out low l;in high hs[h];in low l;out low l;", "in low l;in high h;while(h){}in low l;out low l;",
		"in high h;low x=1;if(h){high x=h;x=x+1;}out low x;", "in high h;do both(1,h);in low ls[1];out low ls[1];",
		"in low h;in low l;out low l;if(h<l){in high h;}out low ls[0];", "in high h;if(h){h=seven();}else{do seven();}out low seven();",
		"in high h;if(h){do hide(l+5,h);}out low 2;", "in high h;low x=5;if(h){h=even(x-4)+odd(x)*(x-even(2));}low y=x;out low y;",
		"in high h;high y=(l+1)*(h+1);h=y-(l-(h-y));if(h){high z=(l+7)-(l*(l-3));h=z;}out low l;", "in high h;while(0<h){h=h-1;h=h&3;do hide(7,h);}out low l+(3-(4-l));",
	} {
		image := built(t, inMain(stats))
		for _, one := range [][]int64{nil, l(0), l(1, 0, 5), l(2, 1, 1), l(-1, 7), l(1<<63-1, -1<<63, 3)} {
			for _, two := range [][]int64{l(0, 0, 0), l(1), l(1, 1, 1), l(50, 2)} {
				for _, fuel := range []int{0, 3, 6, 10, 40, api.MaxSteps} {
					tryDry(t, inMain(stats), low, [2][]int64{one, two}, [2]int{fuel, api.MaxSteps})
					tryDryOrders(t, image, low, [2][]int64{one, two}, [2]int{3 * fuel, api.MaxFuel})
				}
			}
		}
	}
}

// G4, L4: many programs, of which what comes out high hangs on the input high.
func TestG4Programs(t *testing.T) {
	shown, areDone, other := 0, 0, 0
	programs(t, 4, 500, func(m *maker, texts []string) {
		image := built(t, texts)
		for range 6 {
			low, highs, fuels := m.input(), [2][]int64{m.input(), m.input()}, [2]int{m.fuel(), m.fuel()}
			one, two := tryDry(t, texts, low, highs, fuels)
			tryDryOrders(t, image, low, highs, [2]int{enough(fuels[0]), enough(fuels[1])})
			tryDryOrders(t, image, low, highs, [2]int{7 * fuels[0], 20 * fuels[1]})
			if len(one.Low) == 0 || len(two.Low) == 0 {
				continue
			}
			shown++
			if one.End == api.EndDone && two.End == api.EndDone {
				areDone++
			}
			if !slices.Equal(one.High, two.High) {
				other++
			}
		}
	})
	if shown < 800 || areDone < 400 || other < 200 {
		t.Errorf("%d runs show something low, %d are done, %d show another high: too few", shown, areDone, other)
	}
}

// By E5 what a loop asks is in the loop's own context: G4 and L4 do not hold
// of this one, which does as G2 says. README.md tells of it.
func TestG4Open(t *testing.T) {
	texts := []string{"module main;high x;proc f()low gives high{out low 1;x=x-1;return x;}pub proc main()low{in high x;while(f()){}}"}
	if !isOpen(texts) || isOpen(inMain("l=3;while(say(l)){l=l-1;}while(h){h=h-1;}if(h+say(1)){}while(even(2)){}")) {
		t.Errorf("which loops are open is not told")
	}
	for _, high := range []int64{1, 3} {
		want := api.Shown{End: api.EndDone, Low: slices.Repeat(l(1), int(high)), UsedHigh: 1, Steps: 2 + 9*int(high)}
		if got := tryFuels(t, texts, nil, l(high)); !isAlike(got, want) || got.Steps != want.Steps {
			t.Errorf("with the input high %d it shows %v", high, got)
		}
	}
}
