package family_test

import (
	"slices"

	"jigsaw/api"
)

// seqModel is the document's chapter 12.
func seqModel(c api.Con, v []api.Val) answer {
	var l [][]int64
	for _, a := range c.Args {
		l = append(l, numbers(a, v))
	}
	switch c.Name {
	case "fzn_lex_less_int":
		return truthOf(ahead(l[0], l[1]))
	case "fzn_lex_lesseq_int":
		return truthOf(!ahead(l[1], l[0]))
	case "fzn_sort":
		return truthOf(follow(l[1], func(a, b int64) bool { return a <= b }) && shuffled(l[0], l[1]))
	case "fzn_increasing_int":
		return truthOf(follow(l[0], func(a, b int64) bool { return a <= b }))
	case "fzn_strictly_increasing_int":
		return truthOf(follow(l[0], func(a, b int64) bool { return a < b }))
	case "fzn_decreasing_int":
		return truthOf(follow(l[0], func(a, b int64) bool { return a >= b }))
	case "fzn_inverse":
		return truthOf(inverts(l[0], l[1]))
	case "fzn_maximum_int":
		return truthOf(occurs(l[1], l[0][0]) > 0 && !slices.ContainsFunc(l[1], func(n int64) bool { return n > l[0][0] }))
	case "fzn_minimum_int":
		return truthOf(occurs(l[1], l[0][0]) > 0 && !slices.ContainsFunc(l[1], func(n int64) bool { return n < l[0][0] }))
	case "fzn_member_int":
		return truthOf(occurs(l[0], l[1][0]) > 0)
	case "fzn_table_int":
		for i := 0; i < len(l[1]); i += len(l[0]) {
			if slices.Equal(l[1][i:i+len(l[0])], l[0]) {
				return yes
			}
		}
		return no
	case "fzn_regular":
		return truthOf(accepts(l, c.Args[5].L[0].C.S))
	}
	panic(c.Name)
}

// follow: is it so of each number and the one behind it?
func follow(l []int64, so func(a, b int64) bool) bool {
	for i := 1; i < len(l); i++ {
		if !so(l[i-1], l[i]) {
			return false
		}
	}
	return true
}

// shuffled: has each number of both lists as many places in the one as in the other?
func shuffled(a, b []int64) bool {
	for _, n := range slices.Concat(a, b) {
		if occurs(a, n) != occurs(b, n) {
			return false
		}
	}
	return true
}

func inverts(x, y []int64) bool {
	for _, n := range slices.Concat(x, y) {
		if n < 1 || n > int64(len(x)) {
			return false
		}
	}
	for i := range x {
		for j := range y {
			if (x[i] == int64(j+1)) != (y[j] == int64(i+1)) {
				return false
			}
		}
	}
	return true
}

// accepts follows fzn_regular's arguments from state to state.
func accepts(l [][]int64, last []int64) bool {
	letters, table, state := l[2][0], l[3], l[4][0]
	for _, x := range l[0] {
		if x < 1 || x > letters {
			return false
		}
		if state = table[(state-1)*letters+x-1]; state == 0 {
			return false
		}
	}
	return occurs(last, state) > 0
}
