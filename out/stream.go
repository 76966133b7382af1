package out

import (
	"strings"

	"jigsaw/api"
)

// mostDigits is the most digits of a number in an error's line.
const mostDigits = 18

// blocksOf is the blocks with which a text begins, and the place behind them; or the place at which one that begins does not go on, and false.
func blocksOf(s string, l []api.Out) ([][][]api.Val, int, bool) {
	var blocks [][][]api.Val
	at := 0
	for {
		all, end, ok := blockAt(s, at, l)
		switch {
		case !ok && beginsBlock(s[at:], l):
			return nil, end, false
		case !ok:
			return blocks, at, true
		}
		blocks = append(blocks, all)
		at = end
	}
}

// beginsBlock: does a text go on so that what is wrong is the block's, and not the last line's?
func beginsBlock(rest string, l []api.Out) bool {
	return strings.HasPrefix(rest, "-") || len(l) > 0 && strings.HasPrefix(rest, l[0].Name)
}

// ending is how a run ends by the line at a place, and the place behind it; 0 of what is no last line.
func ending(s string, at int) (how, end int) {
	line, _, ok := strings.Cut(s[at:], lineEnd)
	if !ok {
		return 0, at
	}
	line += lineEnd
	switch line {
	case completeLine:
		how = Complete
	case unsatLine:
		how = Unsat
	case unknownLine:
		how = Unknown
	default:
		how = errorEnding(line)
	}
	return how, at + len(line)
}

// errorEnding is Error, if a line is one of an error; else 0.
func errorEnding(line string) int {
	text, ok := strings.CutPrefix(strings.TrimSuffix(line, lineEnd), errorBegin)
	numbers := strings.Split(text, " ")
	if !ok || len(numbers) != 3 {
		return 0
	}
	for _, s := range numbers {
		if len(strings.TrimPrefix(s, "-")) > mostDigits || digits(numberOf(s).N) != s {
			return 0
		}
	}
	return Error
}

// standsAlone: is a last line of that kind at fault behind a block?
func standsAlone(how int) bool {
	return how == Unsat || how == Error
}
