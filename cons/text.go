package cons

import (
	"strconv"
	"strings"

	"jigsaw/api"
)

// between stands between two arguments, and between two terms; within a set there is no blank, so that it parts no set.
const between = ", "

// Text is a constraint as text.
func Text(c api.Con) string {
	out := append([]byte(c.Name), '(')
	for i, a := range c.Args {
		if i > 0 {
			out = append(out, between...)
		}
		out = appendArg(out, a)
	}
	return string(append(out, ')'))
}

// appendArg writes an argument. Only an array has brackets: one that is none is its terms, however many they are.
func appendArg(out []byte, a api.Arg) []byte {
	if !a.Array {
		return appendTerms(out, a.L)
	}
	return append(appendTerms(append(out, '['), a.L), ']')
}

func appendTerms(out []byte, l []api.Term) []byte {
	for i, t := range l {
		if i > 0 {
			out = append(out, between...)
		}
		out = appendTerm(out, t)
	}
	return out
}

func appendTerm(out []byte, t api.Term) []byte {
	switch {
	case t.Var != constant:
		return strconv.AppendInt(append(out, 'x'), int64(t.Var), 10)
	case t.C.Set:
		return appendSet(out, t.C.S)
	}
	return strconv.AppendInt(out, t.C.N, 10)
}

// appendSet writes a set as package sets does, which this layer does not call.
func appendSet(out []byte, l []int64) []byte {
	out = append(out, '{')
	if isSet(l) {
		for i, v := range l {
			if i > 0 {
				out = append(out, ',')
			}
			out = strconv.AppendInt(out, v, 10)
		}
	}
	return append(out, '}')
}

// Parse is the constraint of a text that Text writes.
func Parse(s string) (api.Con, api.Errno) {
	if len(s) > api.MaxText {
		return api.Con{}, api.ErrSize
	}
	name, rest, _ := strings.Cut(s, "(")
	args, ok := parseArgs(strings.TrimSuffix(rest, ")"))
	c := api.Con{Name: name, Args: args}
	// Writing it again tells what was written in another way: 01, +1, -0, blanks and brackets that are missing or too many. What is no set is written as the empty one.
	if !ok || Form(name) == "" || Text(c) != s {
		return api.Con{}, api.ErrCon
	}
	return c, api.OK
}

// parseArgs is the arguments of what stands between the brackets; it takes more ways of writing than Text has. What is no array is read as one term an argument, as it is in each constraint that can be; where nothing stands, the argument has none.
func parseArgs(s string) ([]api.Arg, bool) {
	if s == "" {
		return nil, true
	}
	var out []api.Arg
	inside := false
	for _, part := range strings.Split(s, between) {
		part, begins := strings.CutPrefix(part, "[")
		part, ends := strings.CutSuffix(part, "]")
		if !inside || begins {
			out = append(out, api.Arg{Array: begins})
		}
		alone := !inside && begins == ends
		inside = (inside || begins) && !ends
		if alone && part == "" {
			continue
		}
		t, ok := parseTerm(part)
		if !ok {
			return nil, false
		}
		last := &out[len(out)-1]
		last.L = append(last.L, t)
	}
	return out, true
}

func parseTerm(s string) (api.Term, bool) {
	if number, is := strings.CutPrefix(s, "x"); is {
		n, ok := parseNumber(number)
		return Var(int(n)), ok && n >= 0
	}
	if strings.HasPrefix(s, "{") {
		return parseSet(s)
	}
	n, ok := parseNumber(s)
	return Int(n), ok
}

func parseSet(s string) (api.Term, bool) {
	if s == "{}" {
		return Set(), true
	}
	var l []int64
	for _, part := range strings.Split(strings.Trim(s, "{}"), ",") {
		n, ok := parseNumber(part)
		if !ok {
			return api.Term{}, false
		}
		l = append(l, n)
	}
	return Set(l...), true
}

func parseNumber(s string) (int64, bool) {
	n, err := strconv.ParseInt(s, 10, 64)
	return n, err == nil && -api.Coef <= n && n <= api.Coef
}
