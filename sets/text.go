package sets

import (
	"strconv"
	"strings"

	"jigsaw/api"
)

// empty is the text of the empty set.
const empty = "{}"

// Text is a set as text.
func Text(l []int64) string {
	out := []byte{'{'}
	for i, v := range known(l) {
		if i > 0 {
			out = append(out, ',')
		}
		out = strconv.AppendInt(out, v, 10)
	}
	return string(append(out, '}'))
}

// Parse is the set of a text that Text writes.
func Parse(s string) ([]int64, api.Errno) {
	if len(s) > api.MaxText {
		return nil, api.ErrSize
	}
	if s == empty {
		return nil, api.OK
	}
	var out []int64
	for _, part := range strings.Split(strings.Trim(s, empty), ",") {
		v, err := strconv.ParseInt(part, 10, 64)
		if err != nil {
			return nil, api.ErrDom
		}
		out = append(out, v)
	}
	// Writing it again tells what was written in another way: 01, +1, -0, braces that are missing or too many. What is no set is written as the empty one.
	if Text(out) != s {
		return nil, api.ErrDom
	}
	return out, api.OK
}
