// Package whole has tests alone: of what is to be true of all packages
// together, over programs as wholes.
package whole

import (
	"slices"
	"testing"

	"dryshod/api"
	"dryshod/machine"
	"dryshod/model"
)

// head declares what the statements of most tests use.
const head = `module main;
low l; high h; low ls[3]; high hs[2]; low one[1]; high most[64]; low last;
proc say(low x) low gives low { out low x; return x; }
proc both(low x, high y) low { out low x; out high y; }
proc seven() high gives low { return 7; }
proc bump() low gives low { l = l + 10; return l; }
proc change(low x) low { x = x + 1; l = x; }
proc five(low a, low b, low c, low d, low e) low gives low { out low a; out low e; low f = say(b) * 10; return f + c * 100 + d * 1000 - e; }
proc sink(low n) low { out low n; if (n < 60) { do sink(n + 1); } }
proc sum(low n) low gives low { low r = 0; if (n) { r = n + sum(n - 1); } return r; }
proc even(low n) high gives high { high r = 1; if (n) { r = odd(n - 1); } return r; }
proc odd(low n) high gives high { high r = 0; if (n) { r = even(n - 1); } return r; }
proc hide(low l, high h) high { h = l; high ls = h; most[0] = ls; out high most[0]; }
`

// inMain answers a program whose main does these statements.
func inMain(stats string) []string { return []string{head + "pub proc main()low{" + stats + "}"} }

func l(numbers ...int64) []int64 { return numbers }

// isAlike tells whether two runs show the same, however many steps they took.
func isAlike(a, b api.Shown) bool {
	return a.End == b.End && slices.Equal(a.Low, b.Low) && slices.Equal(a.High, b.High) &&
		a.UsedLow == b.UsedLow && a.UsedHigh == b.UsedHigh
}

func isBeginning(begin, all []int64) bool {
	return len(begin) <= len(all) && slices.Equal(begin, all[:len(begin)])
}

// meant answers what the texts of a program without trouble mean.
func meant(t *testing.T, texts []string, low, high []int64, fuel int) api.Shown {
	t.Helper()
	shown, trouble := model.Run(texts, low, high, fuel)
	if trouble != (api.Trouble{}) {
		t.Fatalf("model.Run(%q, %v, %v, %d) tells %v", texts, low, high, fuel, trouble)
	}
	return shown
}

// done answers what an image does, and the low words that it leaves.
func done(t *testing.T, image api.Image, low, high []int64, fuel int) (api.Shown, []int64) {
	t.Helper()
	shown, words, code := machine.Run(image, low, high, fuel)
	if code != api.OK {
		t.Fatalf("machine.Run(%v, %v, %v, %d) tells %v", image, low, high, fuel, code)
	}
	return shown, words[0]
}

// enough answers fuel for an image, where n is fuel for its texts.
func enough(n int) int { return 60*n + 60 }
