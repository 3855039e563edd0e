package drive

import (
	"strconv"
	"strings"

	"dryshod/api"
)

// maxNumber is the greatest number that a line may have.
const maxNumber = 999999

// numbersOf answers the numbers behind the first word of a line, each of them
// behind one blank, and whether nothing else is there.
func numbersOf(line string, least int64) ([]int64, bool) {
	var numbers []int64
	for _, word := range strings.Split(line, " ")[1:] {
		number, ok := numberOf(word, least)
		if !ok {
			return nil, false
		}
		numbers = append(numbers, number)
	}
	return numbers, true
}

// numberOf answers the number that a word is, if it is from least to maxNumber.
func numberOf(word string, least int64) (int64, bool) {
	number, err := strconv.ParseInt(word, 10, 64)
	// ParseInt takes +1, 01 and -0, too: a number has one way to be written.
	if err != nil || number < least || number > maxNumber || strconv.FormatInt(number, 10) != word {
		return 0, false
	}
	return number, true
}

// tell answers a word and the numbers behind it.
func tell[N ~int | ~int64](word string, numbers ...N) string {
	words := []string{word}
	for _, number := range numbers {
		words = append(words, strconv.FormatInt(int64(number), 10))
	}
	return strings.Join(words, " ")
}

func tellTrouble(trouble api.Trouble) string {
	return tell("bad", trouble.Module, int(trouble.Code), trouble.At)
}

func tellShown(shown api.Shown) string {
	return endWord(shown.End) + " " + tell("low", shown.Low...) + " " + tell("high", shown.High...)
}

// endWord tells how a run ended.
func endWord(end int) string {
	words := [...]string{
		api.EndFuel: "fuel", api.EndDone: "done", api.EndDivided: "divided", api.EndIndex: "index",
		api.EndInput: "input", api.EndDeep: "deep", api.EndWrong: "wrong",
	}
	return words[end]
}
