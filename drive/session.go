package drive

import (
	"strings"

	"dryshod/api"
	"dryshod/build"
	"dryshod/machine"
	"dryshod/model"
	"dryshod/order"
)

// session is what the lines up to now have laid down.
type session struct {
	texts     []string
	low, high []int64
}

// other is the answer to a line that is none of those that are known.
const other = "?"

// answer does what a line asks for, and tells it.
func (s *session) answer(line string) string {
	switch line {
	case "fresh":
		return s.fresh()
	case "check":
		return s.check()
	}
	switch word, behind, _ := strings.Cut(line, " "); word {
	case "module":
		if behind != "" {
			return s.add(line)
		}
	case "low":
		return lay(&s.low, line)
	case "high":
		return lay(&s.high, line)
	case "mean":
		return withFuel(line, s.mean)
	case "run":
		return withFuel(line, s.run)
	}
	return other
}

// add makes text the last of the texts.
func (s *session) add(text string) string {
	s.texts = append(s.texts, text)
	return tell("ok", len(s.texts))
}

func (s *session) fresh() string {
	s.texts = nil
	return tell("ok", len(s.texts))
}

// lay makes the numbers of a line that input.
func lay(input *[]int64, line string) string {
	// Below 0 a number may be as far from it as above.
	numbers, ok := numbersOf(line, -maxNumber)
	if !ok {
		return other
	}
	*input = numbers
	return tell("ok", len(numbers))
}

// withFuel runs with the one number of a line as fuel.
func withFuel(line string, run func(fuel int) string) string {
	numbers, ok := numbersOf(line, 0)
	if !ok || len(numbers) != 1 {
		return other
	}
	return run(int(numbers[0]))
}

func (s *session) check() string {
	taken, trouble := order.Order(s.texts)
	if trouble.Code != api.OK {
		return tellTrouble(trouble)
	}
	return tell("ok", taken...)
}

// mean tells what a run of the texts shows.
func (s *session) mean(fuel int) string {
	shown, trouble := model.Run(s.texts, s.low, s.high, fuel)
	if trouble.Code != api.OK {
		return tellTrouble(trouble)
	}
	return tellShown(shown)
}

// run tells what a run of the image of the texts shows.
func (s *session) run(fuel int) string {
	image, trouble := build.Build(s.texts)
	if trouble.Code != api.OK {
		return tellTrouble(trouble)
	}
	shown, _, code := machine.Run(image, s.low, s.high, fuel)
	if code != api.OK {
		return tellTrouble(api.Trouble{Code: code})
	}
	return tellShown(shown)
}
