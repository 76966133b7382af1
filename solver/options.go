package solver

import (
	"strconv"
	"strings"

	"jigsaw/api"
	"jigsaw/search"
)

// The words of a line of options.
const (
	blank        = " "
	comma        = ","
	allWord      = "-a"
	nodesWord    = "-n"
	restartWord  = "-r"
	nogoodsWord  = "-g"
	lnsWord      = "-l"
	drawsWord    = "-d"
	constantName = "constant"
	lubyName     = "luby"
	geometric    = "geometric"
)

// Text is options as a line.
func Text(o api.Options) (string, api.Errno) {
	if e := search.Right(o); e != api.OK {
		return "", e
	}
	if o.Restart == api.RNone && o.Scale != 0 {
		return "", api.ErrArg
	}
	line := strings.Join(wordsOf(o), blank)
	if len(line) > api.MaxText {
		return "", api.ErrSize
	}
	return line, api.OK
}

// wordsOf is the words of options that can be.
func wordsOf(o api.Options) []string {
	var l []string
	if o.All {
		l = append(l, allWord)
	}
	l = append(l, nodesWord, strconv.FormatInt(o.Nodes, 10))
	if o.Restart != api.RNone {
		l = append(l, restartWord, scheduleName(o.Restart), strconv.FormatInt(o.Scale, 10))
	}
	if o.Nogoods {
		l = append(l, nogoodsWord)
	}
	if o.Lns != 0 {
		l = append(l, lnsWord, strconv.Itoa(o.Lns))
	}
	if len(o.Draws) > 0 {
		l = append(l, drawsWord, drawsText(o.Draws))
	}
	return l
}

func scheduleName(how int) string {
	switch how {
	case api.RConstant:
		return constantName
	case api.RLuby:
		return lubyName
	}
	return geometric
}

func drawsText(l []int) string {
	texts := make([]string, len(l))
	for i, n := range l {
		texts[i] = strconv.Itoa(n)
	}
	return strings.Join(texts, comma)
}

// Options is the options of a line that Text writes.
func Options(s string) (api.Options, api.Errno) {
	if len(s) > api.MaxText {
		return api.Options{}, api.ErrSize
	}
	o := optionsOf(strings.Split(s, blank))
	// Writing them again tells what is no line, or was written in another way: 05, +5, -l 0, words that are missing, too many or not in their order.
	if line, e := Text(o); e != api.OK || line != s {
		return api.Options{}, api.ErrArg
	}
	return o, api.OK
}

// optionsOf is the options of a line's words; of what is no line any.
func optionsOf(l []string) api.Options {
	w := words{l: l}
	var o api.Options
	o.All = w.take(allWord)
	if w.take(nodesWord) {
		o.Nodes, _ = strconv.ParseInt(w.next(), 10, 64)
	}
	if w.take(restartWord) {
		o.Restart = schedule(w.next())
		o.Scale, _ = strconv.ParseInt(w.next(), 10, 64)
	}
	o.Nogoods = w.take(nogoodsWord)
	if w.take(lnsWord) {
		o.Lns, _ = strconv.Atoi(w.next())
	}
	if w.take(drawsWord) {
		o.Draws = drawsOf(w.next())
	}
	return o
}

// schedule is the restarts of a name; RNone of another one.
func schedule(name string) int {
	switch name {
	case constantName:
		return api.RConstant
	case lubyName:
		return api.RLuby
	case geometric:
		return api.RGeometric
	}
	return api.RNone
}

func drawsOf(s string) []int {
	var l []int
	for _, text := range strings.Split(s, comma) {
		n, _ := strconv.Atoi(text)
		l = append(l, n)
	}
	return l
}

// words is the words of a line that are left.
type words struct {
	l []string
}

// take goes on behind a word, if it stands here.
func (w *words) take(word string) bool {
	if len(w.l) == 0 || w.l[0] != word {
		return false
	}
	w.l = w.l[1:]
	return true
}

// next goes on behind whatever word stands here; at the end it is empty.
func (w *words) next() string {
	if len(w.l) == 0 {
		return ""
	}
	word := w.l[0]
	w.l = w.l[1:]
	return word
}
