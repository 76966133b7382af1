package family_test

import (
	"slices"
	"strings"

	"jigsaw/api"
)

// setconModel is the document's chapter 10.
func setconModel(c api.Con, v []api.Val) answer {
	last := number(c.Args[len(c.Args)-1].L[0], v) == 1
	var s [3][]int64
	for i := range c.Args {
		s[i%3] = elements(c.Args[i].L[0], v)
	}
	says := func(name string) bool { return setsSay(name, number(c.Args[0].L[0], v), s[0], s[1]) }
	if name, ok := strings.CutSuffix(c.Name, "_reif"); ok {
		return truthOf(says(name) == last)
	}
	if name, ok := strings.CutSuffix(c.Name, "_imp"); ok {
		return truthOf(!last || says(name))
	}
	switch c.Name {
	case "set_card":
		return truthOf(number(c.Args[1].L[0], v) == int64(len(s[0])))
	case "set_union":
		return makes(s, func(a, b bool) bool { return a || b })
	case "set_intersect":
		return makes(s, func(a, b bool) bool { return a && b })
	case "set_diff":
		return makes(s, func(a, b bool) bool { return a && !b })
	case "set_symdiff":
		return makes(s, func(a, b bool) bool { return a != b })
	}
	return truthOf(says(c.Name))
}

// makes: is each element that there is in the third set just if it should be by the first two?
func makes(s [3][]int64, should func(a, b bool) bool) answer {
	for _, e := range slices.Concat(s[:]...) {
		if slices.Contains(s[2], e) != should(slices.Contains(s[0], e), slices.Contains(s[1], e)) {
			return no
		}
	}
	return yes
}

// setsSay is what is said of a number and a set, or of two sets.
func setsSay(name string, x int64, s, t []int64) bool {
	switch name {
	case "set_in":
		return slices.Contains(t, x)
	case "set_eq":
		return inside(s, t) && inside(t, s)
	case "set_ne":
		return !inside(s, t) || !inside(t, s)
	case "set_subset":
		return inside(s, t)
	case "set_superset":
		return inside(t, s)
	case "set_le":
		return !ahead(t, s)
	case "set_lt":
		return ahead(s, t)
	}
	panic(name)
}

func inside(s, t []int64) bool {
	for _, e := range s {
		if !slices.Contains(t, e) {
			return false
		}
	}
	return true
}

// ahead: is s ahead of t in the order of sets?
func ahead(s, t []int64) bool {
	for i, e := range s {
		if i == len(t) {
			return false
		}
		if e != t[i] {
			return e < t[i]
		}
	}
	return len(s) < len(t)
}
