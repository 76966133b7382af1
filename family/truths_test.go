package family_test

import (
	"strings"

	"jigsaw/api"
)

// numbers is the values of an argument's terms.
func numbers(a api.Arg, v []api.Val) []int64 {
	var out []int64
	for _, t := range a.L {
		out = append(out, number(t, v))
	}
	return out
}

// ones is how many of these are 1.
func ones(l []int64) int {
	n := 0
	for _, x := range l {
		if x == 1 {
			n++
		}
	}
	return n
}

// logicModel is the document's chapter 9.
func logicModel(c api.Con, v []api.Val) answer {
	var args [][]int64
	for _, a := range c.Args {
		args = append(args, numbers(a, v))
	}
	if name, ok := strings.CutSuffix(c.Name, "_reif"); ok {
		last := len(args) - 1
		return truthOf(logicSays(name, args[:last]) == (args[last][0] == 1))
	}
	return truthOf(logicSays(c.Name, args))
}

// logicSays is what a constraint says of numbers, argument by argument.
func logicSays(name string, l [][]int64) bool {
	switch name {
	case "bool2int", "bool_eq":
		return l[0][0] == l[1][0]
	case "bool_ne", "bool_not":
		return l[0][0] != l[1][0]
	case "bool_le":
		return l[0][0] <= l[1][0]
	case "bool_lt":
		return l[0][0] < l[1][0]
	case "bool_and":
		return (l[2][0] == 1) == (l[0][0] == 1 && l[1][0] == 1)
	case "bool_or":
		return (l[2][0] == 1) == (l[0][0] == 1 || l[1][0] == 1)
	case "bool_xor":
		return l[2][0] == (l[0][0]+l[1][0])%2
	case "bool_clause":
		return ones(l[0]) > 0 || ones(l[1]) < len(l[1])
	case "array_bool_and":
		return (l[1][0] == 1) == (ones(l[0]) == len(l[0]))
	case "array_bool_or":
		return (l[1][0] == 1) == (ones(l[0]) > 0)
	case "array_bool_xor":
		return ones(l[0])%2 == 1
	}
	panic(name)
}
