package cons_test

import (
	"fmt"
	"math"
	"slices"
	"strings"
	"testing"

	"jigsaw/api"
	"jigsaw/cons"
)

// with is c with another argument.
func with(c api.Con, at int, a api.Arg) api.Con {
	c = cons.Copy(c)
	c.Args[at] = a
	return c
}

// withTerm is c with another term in an argument.
func withTerm(c api.Con, at, k int, x api.Term) api.Con {
	c = cons.Copy(c)
	c.Args[at].L[k] = x
	return c
}

// long is an array of n terms that can be nowhere.
func long(n int) api.Arg {
	return api.Arg{Array: true, L: slices.Repeat([]api.Term{{Var: -9}}, n)}
}

// P5.2: a constraint of each name can be, with arrays of one element and of MaxArray; P5.6: with more variables, too.
func TestRight(t *testing.T) {
	for name, form := range listed() {
		for _, size := range []int{1, 2, 3, api.MaxArray} {
			c := sample(name, form, size)
			isRight(t, c, api.OK)
			for _, more := range [][]bool{{false}, {true}, {true, false}, make([]bool, 2000)} {
				if e := cons.Right(c, slices.Concat(kinds(), more)); e != api.OK {
					t.Error("with more variables", name, e)
				}
			}
		}
	}
}

// P5.2: of no such name it is ErrKind, whatever the arguments are.
func TestRightOfNoName(t *testing.T) {
	for c := range samples() {
		c.Name += "_"
		isRight(t, c, api.ErrKind)
		c.Args = append(c.Args, long(api.MaxArray+1))
		isRight(t, c, api.ErrKind)
	}
	isRight(t, api.Con{}, api.ErrKind)
	isRight(t, api.Con{Name: "none"}, api.ErrKind)
}

// P5.2: too few and too many arguments, ahead of ErrSize.
func TestRightOfOtherNumbers(t *testing.T) {
	for c := range samples() {
		few, many := cons.Copy(c), cons.Copy(c)
		few.Args = few.Args[:len(few.Args)-1]
		many.Args = append(many.Args, many.Args[len(many.Args)-1])
		tooLong := cons.Copy(c)
		tooLong.Args = append(tooLong.Args, long(api.MaxArray+1))
		for _, x := range []api.Con{few, many, tooLong, {Name: c.Name}} {
			isRight(t, x, api.ErrCon)
		}
	}
}

// P5.2: an array where one term should stand, one term where an array should, and not one term; ahead of ErrSize.
func TestRightOfOtherShapes(t *testing.T) {
	for c, form := range samples() {
		for i, part := range strings.Split(form, ",") {
			a := c.Args[i]
			wrong := []api.Arg{{Array: !a.Array, L: a.L}, {Array: !a.Array}, {Array: !a.Array, L: a.L[:1]}, {}}
			if part[0] != 'a' {
				wrong = append(wrong, api.Arg{L: append(slices.Clone(a.L), a.L...)}, api.Arg{L: long(api.MaxArray + 1).L}, long(api.MaxArray+1))
			}
			for _, w := range wrong {
				x := with(c, i, w)
				isRight(t, x, api.ErrCon)
				for j := range x.Args {
					if j != i && c.Args[j].Array {
						isRight(t, with(x, j, long(api.MaxArray+1)), api.ErrCon)
					}
				}
			}
		}
	}
}

// P5.2: an array of one element too many, ahead of terms that can not be.
func TestRightOfLongArrays(t *testing.T) {
	for name, form := range listed() {
		c := sample(name, form, 2)
		for i, a := range c.Args {
			if !a.Array {
				continue
			}
			isRight(t, sample(name, form, api.MaxArray+1), api.ErrSize)
			isRight(t, with(c, i, long(api.MaxArray+1)), api.ErrSize)
			isRight(t, with(c, i, long(api.MaxArray)), api.ErrCon)
			for j := range c.Args {
				if j != i {
					isRight(t, withTerm(with(c, i, long(api.MaxArray+1)), j, 0, cons.Var(-2)), api.ErrSize)
				}
			}
		}
	}
}

// wrongTerms are terms that can not stand where the letter stands, of kinds.
func wrongTerms(letter string) []api.Term {
	set := letter == "s" || letter == "S"
	number := cons.Int(1)
	out := []api.Term{cons.Var(-2), cons.Var(math.MinInt), cons.Var(len(kinds())), cons.Var(math.MaxInt)}
	for v, isSet := range kinds() {
		if !variable(letter) || isSet != set {
			out = append(out, cons.Var(v))
		}
		out = append(out, api.Term{Var: v, C: api.Val{N: 1}}, api.Term{Var: v, C: api.Val{Set: true}}, api.Term{Var: v, C: api.Val{S: []int64{1}}})
	}
	if set {
		out = append(out, number, cons.Int(0), api.Term{Var: -1, C: api.Val{Set: true, N: 1, S: []int64{1}}}, api.Term{Var: -1, C: api.Val{S: []int64{1}}})
		for _, l := range noSets() {
			out = append(out, cons.Set(l...))
		}
		return out
	}
	out = append(out, cons.Set(), cons.Set(1), api.Term{Var: -1, C: api.Val{N: 1, S: []int64{1}}}, api.Term{Var: -1, C: api.Val{Set: true, N: 1}}, cons.Int(least), cons.Int(greatest))
	ends := map[string][2]int64{"i": {-maxCoef, maxCoef}, "I": {-maxBig, maxBig}, "b": {0, 1}, "B": {0, 1}}[letter]
	return append(out, cons.Int(ends[0]-1), cons.Int(ends[1]+1))
}

// rightTerms are terms that can stand where the letter stands, of kinds.
func rightTerms(letter string) []api.Term {
	switch letter {
	case "i":
		return []api.Term{cons.Int(-maxCoef), cons.Int(maxCoef), cons.Int(0), {Var: -1, C: api.Val{S: []int64{}}}}
	case "I":
		return []api.Term{cons.Int(-maxBig), cons.Int(maxBig), cons.Int(0), cons.Var(0), cons.Var(4), {Var: 2, C: api.Val{S: []int64{}}}}
	case "b":
		return []api.Term{cons.Int(0), cons.Int(1)}
	case "B":
		return []api.Term{cons.Int(0), cons.Int(1), cons.Var(0), cons.Var(4)}
	case "s":
		return []api.Term{cons.Set(), cons.Set(-maxBig, 0, maxBig), cons.Set(run(api.MaxElems, -9)...)}
	}
	return []api.Term{cons.Set(), cons.Set(-maxBig, 0, maxBig), cons.Set(run(api.MaxElems, -9)...), cons.Var(1), cons.Var(3)}
}

// ruled: are there rules for the numbers that stand in that argument, beside its form?
func ruled(name string, at int) bool {
	switch name {
	case "fzn_global_cardinality", "fzn_global_cardinality_closed":
		return at == 1
	case "fzn_regular":
		return at >= 1 && at <= 4
	case "fzn_bin_packing", "fzn_bin_packing_capa", "fzn_bin_packing_load":
		return at == 2
	case "fzn_knapsack":
		return at < 2
	}
	return false
}

// P5.2: term by term, what can stand there and what can not.
func TestRightOfTerms(t *testing.T) {
	for c, form := range samples() {
		for i, part := range strings.Split(form, ",") {
			letter := strings.TrimPrefix(part, "a")
			for k := range c.Args[i].L {
				for _, x := range wrongTerms(letter) {
					isRight(t, withTerm(c, i, k, x), api.ErrCon)
				}
				for _, x := range rightTerms(letter) {
					if !ruled(c.Name, i) {
						isRight(t, withTerm(c, i, k, x), api.OK)
					}
				}
			}
		}
	}
}

// P5.2: of no variables at all only constants can stand.
func TestRightOfNoVariables(t *testing.T) {
	for _, none := range [][]bool{nil, {}} {
		if e := cons.Right(parsed(t, "int_le(3, 4)"), none); e != api.OK {
			t.Error("constants", e)
		}
		if e := cons.Right(parsed(t, "int_le(3, x0)"), none); e != api.ErrCon {
			t.Error("a variable", e)
		}
	}
}

// P5.2: which arrays have as many, by the document: all others may have any number.
func TestRightOfAsMany(t *testing.T) {
	groups := map[string][]int{
		"fzn_sort": {0, 1}, "fzn_inverse": {0, 1}, "fzn_disjunctive": {0, 1},
		"fzn_global_cardinality": {1, 2}, "fzn_global_cardinality_closed": {1, 2},
		"fzn_cumulative": {0, 1, 2}, "fzn_diffn": {0, 1, 2, 3},
		"fzn_bin_packing": {1, 2}, "fzn_bin_packing_capa": {1, 2}, "fzn_bin_packing_load": {1, 2},
		"fzn_knapsack": {0, 1, 2},
	}
	for c := range samples() {
		group := groups[c.Name]
		if strings.HasPrefix(c.Name, "int_lin_") || strings.HasPrefix(c.Name, "bool_lin_") {
			group = []int{0, 1}
		}
		empty := cons.Copy(c)
		for i, a := range c.Args {
			if !a.Array || c.Name == "fzn_table_int" || c.Name == "fzn_regular" && i == 3 {
				continue
			}
			want := api.OK
			if slices.Contains(group, i) {
				want = api.ErrCon
				empty.Args[i].L = nil
			}
			isRight(t, with(c, i, cons.List(a.L[0])), want)
			isRight(t, with(c, i, api.Arg{Array: true, L: append(slices.Clone(a.L), sample(c.Name, cons.Form(c.Name), 3).Args[i].L[2])}), want)
		}
		isRight(t, empty, api.OK)
	}
}

// P5.2: an empty array is right where no rule says otherwise.
func TestRightOfEmptyArrays(t *testing.T) {
	for c := range samples() {
		for i, a := range c.Args {
			if a.Array {
				c.Args[i].L = nil
			}
		}
		want := api.OK
		switch c.Name {
		case "fzn_maximum_int", "fzn_minimum_int", "fzn_table_int", "fzn_regular":
			want = api.ErrCon
		}
		isRight(t, c, want)
	}
}

// P5.2: the rules behind the table, but those of how many there are.
func TestRightOfRules(t *testing.T) {
	for text, want := range map[string]api.Errno{
		"fzn_global_cardinality([x0], [1, 2, 1], [x0, x0, x0])":        api.ErrCon,
		"fzn_global_cardinality([x0], [2, 2], [x0, x0])":               api.ErrCon,
		"fzn_global_cardinality([x0], [3, -3], [x0, 5])":               api.OK,
		"fzn_global_cardinality_closed([x0], [9, 1, 9], [x0, x0, x0])": api.ErrCon,
		"fzn_global_cardinality_closed([x0, 1], [9, 1], [7, 7])":       api.OK,
		"fzn_maximum_int(x0, [])":                                      api.ErrCon,
		"fzn_maximum_int(x0, [1])":                                     api.OK,
		"fzn_minimum_int(x0, [])":                                      api.ErrCon,
		"fzn_minimum_int(x0, [x0])":                                    api.OK,
		"fzn_table_int([], [])":                                        api.ErrCon,
		"fzn_table_int([], [1])":                                       api.ErrCon,
		"fzn_table_int([x0, x2], [])":                                  api.OK,
		"fzn_table_int([x0, x2], [1])":                                 api.ErrCon,
		"fzn_table_int([x0, x2], [1, 2, 3])":                           api.ErrCon,
		"fzn_table_int([x0, x2], [1, 2, 3, 4])":                        api.OK,
		"fzn_table_int([x0, x2, 3], [1, 2, 3, 4])":                     api.ErrCon,
		"fzn_bin_packing(-5, [x0, x2], [0, 1])":                        api.OK,
		"fzn_bin_packing(5, [x0, x2], [0, -1])":                        api.ErrCon,
		"fzn_bin_packing_capa([-5], [x0], [0])":                        api.OK,
		"fzn_bin_packing_capa([5], [x0, -1], [-1, 3])":                 api.ErrCon,
		"fzn_bin_packing_load([-5], [x0], [0])":                        api.OK,
		"fzn_bin_packing_load([x0], [x0], [-1])":                       api.ErrCon,
		"fzn_knapsack([0], [0], [-3], -1, -2)":                         api.OK,
		"fzn_knapsack([-1], [0], [x0], x0, x0)":                        api.ErrCon,
		"fzn_knapsack([0], [-1], [x0], x0, x0)":                        api.ErrCon,
		"int_lin_eq([-1, -1], [x0, 3], -7)":                            api.OK,
		"fzn_among(x0, [], {})":                                        api.OK,
	} {
		isRight(t, parsed(t, text), want)
	}
}

// P5.2: the rules of fzn_regular(x, Q, S, d, q, F).
func TestRightOfRegular(t *testing.T) {
	row := func(n int, v int64) api.Arg { return cons.List(slices.Repeat([]api.Term{cons.Int(v)}, n)...) }
	for _, c := range []struct {
		states, letters, first int64
		d                      api.Arg
		want                   api.Errno
	}{
		{2, 2, 1, cons.List(cons.Int(1), cons.Int(2), cons.Int(2), cons.Int(0)), api.OK},
		{2, 2, 2, cons.List(cons.Int(1), cons.Int(2), cons.Int(2), cons.Int(0)), api.OK},
		{2, 2, 0, row(4, 1), api.ErrCon},
		{2, 2, 3, row(4, 1), api.ErrCon},
		{2, 2, -1, row(4, 1), api.ErrCon},
		{2, 2, 1, row(3, 1), api.ErrCon},
		{2, 2, 1, row(5, 1), api.ErrCon},
		{2, 2, 1, row(0, 1), api.ErrCon},
		{2, 2, 1, row(4, 2), api.OK},
		{2, 2, 1, row(4, 3), api.ErrCon},
		{2, 2, 1, row(4, 0), api.OK},
		{2, 2, 1, row(4, -1), api.ErrCon},
		{3, 2, 1, cons.List(cons.Int(1), cons.Int(2), cons.Int(0), cons.Int(0), cons.Int(1), cons.Int(4)), api.ErrCon},
		{0, 2, 1, row(0, 1), api.ErrCon},
		{2, 0, 1, row(0, 1), api.ErrCon},
		{0, 0, 0, row(0, 1), api.ErrCon},
		{-2, -2, 1, row(4, 0), api.ErrCon},
		{-2, -2, -3, row(4, 0), api.ErrCon},
		{2, -2, 1, row(4, 0), api.ErrCon},
		{1000, 1, 1000, row(1000, 1000), api.OK},
		{1, 1000, 1, row(1000, 1), api.OK},
		{1001, 1, 1, row(1000, 1), api.ErrCon},
		{1, 1001, 1, row(1000, 1), api.ErrCon},
		{1000, 1000, 1, row(1000, 1), api.ErrCon},
		{maxCoef, maxCoef, 1, row(1000, 1), api.ErrCon},
		{maxCoef, 1, maxCoef, row(1, 1), api.ErrCon},
	} {
		con := api.Con{Name: "fzn_regular", Args: []api.Arg{
			cons.List(cons.Var(0), cons.Int(-5)), cons.One(cons.Int(c.states)), cons.One(cons.Int(c.letters)),
			c.d, cons.One(cons.Int(c.first)), cons.One(cons.Set(-4, 9)),
		}}
		isRight(t, con, c.want)
	}
}

// P5.2: a constraint with two errors answers the one that is named first.
func TestRightOfTheFirst(t *testing.T) {
	tooMany := api.Con{Name: "fzn_sort", Args: []api.Arg{long(api.MaxArray + 1), cons.List()}}
	isRight(t, tooMany, api.ErrSize)
	tooMany.Args = append(tooMany.Args, cons.One(cons.Int(1)))
	isRight(t, tooMany, api.ErrCon)
	tooMany.Name = "fzn_sorted"
	isRight(t, tooMany, api.ErrKind)
}

// Example 1.
func TestExample(t *testing.T) {
	c := parsed(t, "int_lin_le([2, -1], [x0, x3], 5)")
	if cons.Form(c.Name) != "ai,aI,i" || cons.Family(c.Name) != "linear" || !slices.Equal(cons.Vars(c), []int{0, 3}) {
		t.Error("Form, Family, Vars", cons.Form(c.Name), cons.Family(c.Name), cons.Vars(c))
	}
	for n, want := range []api.Errno{api.ErrCon, api.ErrCon, api.ErrCon, api.ErrCon, api.OK, api.OK} {
		if e := cons.Right(c, make([]bool, n)); e != want {
			t.Error("Right", n, e)
		}
	}
}

// Rule 4: nothing that is handed in is changed.
func TestRightChangesNothing(t *testing.T) {
	all := slices.Collect(func(yield func(api.Con) bool) {
		for c := range samples() {
			if !yield(c) {
				return
			}
		}
	})
	all = append(all, parsed(t, "fzn_global_cardinality([x0], [9, 1, 4, 9], [3, 3, x0, 3])"), parsed(t, "set_eq({1,2}, x1)"))
	all = append(all, differing()...)
	for _, c := range all {
		before, vars := fmt.Sprint(c), kinds()
		cons.Right(c, vars)
		cons.Vars(c)
		cons.Text(c)
		cons.Same(c, c)
		if fmt.Sprint(c) != before || !slices.Equal(vars, kinds()) {
			t.Error("changed", before, c)
		}
	}
}
