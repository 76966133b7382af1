package dom

import (
	"strconv"
	"strings"

	"jigsaw/api"
)

// none is the text of no ranges.
const none = "{}"

// Text is ranges as text.
func Text(l []api.Range) string {
	l = known(l)
	if len(l) == 0 {
		return none
	}
	var out []byte
	for i, r := range l {
		if i > 0 {
			out = append(out, ',')
		}
		out = strconv.AppendInt(out, r.Lo, 10)
		if r.Lo < r.Hi {
			out = append(out, ".."...)
			out = strconv.AppendInt(out, r.Hi, 10)
		}
	}
	return string(out)
}

// Parse is the ranges of a text that Text writes.
func Parse(s string) ([]api.Range, api.Errno) {
	if len(s) > api.MaxText {
		return nil, api.ErrSize
	}
	if s == none {
		return nil, api.OK
	}
	var out []api.Range
	for _, part := range strings.Split(s, ",") {
		r, ok := parseRange(part)
		if !ok {
			return nil, api.ErrDom
		}
		out = append(out, r)
	}
	// Writing them again tells what was written in another way: 01, +1, -0, 1..1. Ranges that are not right are written as none.
	if Text(out) != s {
		return nil, api.ErrDom
	}
	return out, api.OK
}

// parseRange is the range of a part between commas; it takes more ways of writing than Text has.
func parseRange(part string) (api.Range, bool) {
	lo, hi, two := strings.Cut(part, "..")
	if !two {
		hi = lo
	}
	from, errLo := strconv.ParseInt(lo, 10, 64)
	to, errHi := strconv.ParseInt(hi, 10, 64)
	return api.Range{Lo: from, Hi: to}, errLo == nil && errHi == nil
}
