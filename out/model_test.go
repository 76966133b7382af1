package out_test

import (
	"regexp"
	"strconv"
	"strings"

	"jigsaw/api"
	"jigsaw/out"
)

// The chapter's words as patterns.
var (
	numberBytes = regexp.MustCompile(`^[0-9-]*`)
	numberText  = regexp.MustCompile(`^(0|-?[1-9][0-9]{0,6})$`)
	listText    = regexp.MustCompile(`^\{([0-9,-]*)\}$`)
	spanText    = regexp.MustCompile(`^(-?[0-9]+)\.\.(-?[0-9]+)$`)
	lastLine    = regexp.MustCompile(`^(==========|=====UNSATISFIABLE=====|=====UNKNOWN=====|=====ERROR=====( (0|-?[1-9][0-9]{0,17})){3})\n`)
)

// modelNumber is the number of a text, if it is one.
func modelNumber(s string) (int64, bool) {
	n, _ := strconv.ParseInt(s, 10, 64)
	return n, numberText.MatchString(s) && -maxBig <= n && n <= maxBig
}

// modelSet is the set of a text, if it is one.
func modelSet(s string) ([]int64, bool) {
	if m := spanText.FindStringSubmatch(s); m != nil {
		lo, ok := modelNumber(m[1])
		hi, ok2 := modelNumber(m[2])
		if !ok || !ok2 || hi <= lo || hi-lo >= api.MaxElems {
			return nil, false
		}
		return run(lo, int(hi-lo+1)), true
	}
	m := listText.FindStringSubmatch(s)
	if m == nil {
		return nil, false
	}
	var l []int64
	gap := false
	for _, part := range strings.Split(m[1], ",") {
		if m[1] == "" {
			break
		}
		n, ok := modelNumber(part)
		if !ok || len(l) == api.MaxElems || len(l) > 0 && n <= l[len(l)-1] {
			return nil, false
		}
		gap = gap || len(l) > 0 && n > l[len(l)-1]+1
		l = append(l, n)
	}
	return l, len(l) < 2 || gap
}

// modelSetBytes is what a set would be at the beginning of a text.
func modelSetBytes(s string) string {
	for i := range len(s) {
		comma := s[i] == ',' && (i+1 == len(s) || s[i+1] != ' ')
		if !comma && !strings.Contains("0123456789-.{}", s[i:i+1]) {
			return s[:i]
		}
	}
	return s
}

// differs is the place of the first byte at which s does not go on with a text, or -1.
func differs(s, text string) int {
	for i := range len(text) {
		if i == len(s) || s[i] != text[i] {
			return i
		}
	}
	return -1
}

// modelValue is the value at the beginning of a text, and how long it is; or, if there is none, the place of what is wrong, and false.
func modelValue(s string, kind int) (api.Val, int, bool) {
	switch kind {
	case api.YBool:
		at := 0
		for n, text := range []string{"false", "true"} {
			d := differs(s, text)
			if d < 0 {
				return num(int64(n)), len(text), true
			}
			at = max(at, d)
		}
		return api.Val{}, at, false
	case api.YInt:
		text := numberBytes.FindString(s)
		if n, ok := modelNumber(text); ok {
			return num(n), len(text), true
		}
		return api.Val{}, 0, false
	}
	text := modelSetBytes(s)
	if l, ok := modelSet(text); ok {
		return set(l...), len(text), true
	}
	return api.Val{}, 0, false
}

// modelBlock is the values of the block at a place, and the place behind it; or the place of the fault, and false.
func modelBlock(s string, at int, l []api.Out) ([][]api.Val, int, bool) {
	var all [][]api.Val
	for _, o := range l {
		text := o.Name + " = "
		if !o.One {
			text += "array" + strconv.Itoa(len(o.Dims)) + "d("
			for _, x := range o.Dims {
				text += strconv.FormatInt(x.Lo, 10) + ".." + strconv.FormatInt(x.Hi, 10) + ", "
			}
			text += "["
		}
		var values []api.Val
		for i, t := range o.L {
			if i > 0 {
				text = ", "
			}
			if d := differs(s[at:], text); d >= 0 {
				return nil, at + d, false
			}
			at += len(text)
			text = ""
			v, n, ok := modelValue(s[at:], o.Kind)
			if ok && t.Var < 0 && told(v) != told(t.C) {
				return nil, at, false
			}
			at += n
			if !ok {
				return nil, at, false
			}
			values = append(values, v)
		}
		if o.One {
			text += ";\n"
		} else {
			text += "]);\n"
		}
		if d := differs(s[at:], text); d >= 0 {
			return nil, at + d, false
		}
		at += len(text)
		all = append(all, values)
	}
	if d := differs(s[at:], dashes); d >= 0 {
		return nil, at + d, false
	}
	return all, at + len(dashes), true
}

// modelStream is the blocks of a run's text, and how it ended; 0 and the place, if it is none.
func modelStream(s string, l []api.Out) ([][][]api.Val, int, int) {
	var blocks [][][]api.Val
	at := 0
	for {
		all, end, ok := modelBlock(s, at, l)
		if !ok {
			if strings.HasPrefix(s[at:], "-") || len(l) > 0 && strings.HasPrefix(s[at:], l[0].Name) {
				return nil, 0, end
			}
			break
		}
		blocks = append(blocks, all)
		at = end
	}
	line := lastLine.FindString(s[at:])
	how := out.Error
	switch {
	case line == "":
		return nil, 0, at
	case line == equals:
		how = out.Complete
	case line == unsat:
		how = out.Unsat
	case line == unknown:
		how = out.Unknown
	}
	if len(blocks) > 0 && (how == out.Unsat || how == out.Error) {
		return nil, 0, at
	}
	if at+len(line) < len(s) {
		return nil, 0, at + len(line)
	}
	return blocks, how, 0
}
