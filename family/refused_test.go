package family_test

import (
	"math"
	"slices"
	"strings"
	"testing"

	"jigsaw/api"
	"jigsaw/cons"
)

const maxBig = int64(api.Big)

// sample is a constraint that can be, each variable of which stands once, with the kinds of its variables: arrays have two terms.
func sample(name string) (api.Con, []bool) {
	c := api.Con{Name: name}
	var isSet []bool
	term := func(letter string) api.Term {
		switch letter {
		case "I", "B", "S":
			isSet = append(isSet, letter == "S")
			return cons.Var(len(isSet) - 1)
		case "s":
			return cons.Set(1, 2)
		}
		return cons.Int(1)
	}
	for _, part := range strings.Split(cons.Form(name), ",") {
		if letter, array := strings.CutPrefix(part, "a"); array {
			c.Args = append(c.Args, cons.List(term(letter), term(letter)))
		} else {
			c.Args = append(c.Args, cons.One(term(letter)))
		}
	}
	switch name {
	case "fzn_global_cardinality", "fzn_global_cardinality_closed": // none twice
		c.Args[1].L[1] = cons.Int(2)
	case "fzn_regular": // two states, one letter
		c.Args[1] = cons.One(cons.Int(2))
	}
	return c, isSet
}

// rightVals, rightDoms are values and domains of these kinds that can be.
func rightVals(isSet []bool) []api.Val {
	out := make([]api.Val, len(isSet))
	for n, s := range isSet {
		out[n] = api.Val{Set: s}
	}
	return out
}

func rightDoms(isSet []bool) []api.Dom {
	out := make([]api.Dom, len(isSet))
	for n, s := range isSet {
		if out[n] = num(r(0, 1)); s {
			out[n] = set(nil, list(1, 2), 0, 2)
		}
	}
	return out
}

// wrongVals is values that can not be, of a kind.
func wrongVals(isSet bool) []api.Val {
	if !isSet {
		return []api.Val{{N: maxBig + 1}, {N: -maxBig - 1}, {N: math.MaxInt64}, {N: math.MinInt64}, {N: 1, S: list(1)}, {S: list(0)}}
	}
	return []api.Val{{Set: true, N: 1}, {Set: true, N: -1, S: list(1)}, {Set: true, S: list(2, 1)}, {Set: true, S: list(1, 1)}, {Set: true, S: list(maxBig + 1)}, {Set: true, S: list(math.MinInt64, 0)}, {Set: true, S: slices.Collect(upTo(api.MaxElems + 1))}}
}

func upTo(n int64) func(func(int64) bool) {
	return func(yield func(int64) bool) {
		for i := range n {
			if !yield(i) {
				return
			}
		}
	}
}

// wrongDoms is domains that can not be, of a kind.
func wrongDoms(isSet bool) []api.Dom {
	if isSet {
		return []api.Dom{
			{Set: true, R: []api.Range{r(1, 2)}}, set(list(1), list(2), 1, 1), set(nil, list(2, 1), 0, 1), set(nil, list(1, 1), 0, 1), set(nil, list(1, 2), -1, 2), set(nil, list(1, 2), 0, 3), set(nil, list(1, 2), 2, 1),
			set(list(1), list(1, 2), 0, 2), set(nil, nil, 2, 0), set(nil, nil, math.MinInt, math.MaxInt), set(nil, list(maxBig+1), 0, 1), set(nil, slices.Collect(upTo(api.MaxElems+1)), 0, 1),
		}
	}
	var many []api.Range
	for i := range int64(api.MaxRanges + 1) {
		many = append(many, r(2*i, 2*i))
	}
	return []api.Dom{
		num(r(2, 1)), num(r(1, 3), r(4, 6)), num(r(1, 3), r(3, 6)), num(r(5, 6), r(1, 2)), num(r(-maxBig-1, 0)), num(r(0, maxBig+1)), num(r(math.MinInt64, math.MaxInt64)), num(many...),
		{R: []api.Range{r(0, 1)}, Lo: list(1)}, {R: []api.Range{r(0, 1)}, Up: list(1)}, {R: []api.Range{r(0, 1)}, Least: 1}, {R: []api.Range{r(0, 1)}, Most: -1}, {Least: 1},
	}
}

// refuses asks for an error of both calls, and for nothing else beside it.
func refuses(t *testing.T, f face, c api.Con, v []api.Val, d []api.Dom, want api.Errno) {
	t.Helper()
	if ok, e := f.holds(c, v); ok || e != want {
		t.Errorf("%s: Holds %s: %v, %d; want %d", f.name, c.Name, ok, e, want)
	}
	if got, what, e := f.prune(c, d); got != nil || what != 0 || e != want {
		t.Errorf("%s: Prune %s: %v, %d, %d; want %d", f.name, c.Name, got, what, e, want)
	}
}

// P7.1, P7.2, and so of chapters 8 to 13: a name of another family, or none, is refused first, whatever else is wrong.
func TestOtherFamilies(t *testing.T) {
	for _, f := range faces() {
		for name := range cons.Names() {
			if cons.Family(name) == f.name {
				continue
			}
			c, isSet := sample(name)
			refuses(t, f, c, rightVals(isSet), rightDoms(isSet), api.ErrKind)
			refuses(t, f, c, nil, nil, api.ErrKind)
			refuses(t, f, api.Con{Name: name}, []api.Val{{N: maxBig + 1}}, []api.Dom{num(r(2, 1))}, api.ErrKind)
		}
		for _, name := range []string{"", "int", "int_eq ", " int_abs", "INT_EQ", "int_lin_lt", "float_eq", f.name, "\xff", "bool_lin_le_reif", "array_set_element_reif", "bool_le_imp", "bool2int_reif", "bool_and_reif", "array_bool_xor_reif", "set_card_reif", "set_union_reif", "set_subset_imp", "set_gt", "_reif", "_imp", "fzn_all_different", "all_different_int", "fzn_all_different_int_reif", "fzn_count_le", "fzn_among_imp", "fzn_table_bool", "fzn_regular_nfa", "fzn_strictly_decreasing_int", "fzn_circuit_int", "circuit", "fzn_cumulative_reif", "fzn_disjunctive_strict", "fzn_diffn_nonstrict", "fzn_bin_packing_", "fzn_bin_packing_capacity", "fzn_"} {
			refuses(t, f, api.Con{Name: name}, nil, nil, api.ErrKind)
			refuses(t, f, api.Con{Name: name, Args: []api.Arg{cons.One(cons.Var(0)), cons.One(cons.Var(1))}}, make([]api.Val, 2), rightDoms(make([]bool, 2)), api.ErrKind)
		}
	}
}

// broken is c in ways in which it can not be, by the error that cons.Right answers.
func broken(c api.Con, vars int) map[api.Errno][]api.Con {
	with := func(change func(c api.Con) api.Con) api.Con { return change(cons.Copy(c)) }
	out := map[api.Errno][]api.Con{api.ErrCon: {
		with(func(c api.Con) api.Con { c.Args = c.Args[1:]; return c }),
		with(func(c api.Con) api.Con { c.Args = append(c.Args, cons.One(cons.Var(0))); return c }),
		{Name: c.Name},
	}}
	for i := range c.Args {
		out[api.ErrCon] = append(out[api.ErrCon],
			with(func(c api.Con) api.Con { c.Args[i].Array = !c.Args[i].Array; return c }),
			with(func(c api.Con) api.Con { c.Args[i].L[0] = api.Term{Var: -2}; return c }),
			with(func(c api.Con) api.Con { c.Args[i].L[0] = cons.Var(vars); return c }),
			with(func(c api.Con) api.Con { c.Args[i].L[0] = cons.Var(math.MaxInt); return c }),
			with(func(c api.Con) api.Con { c.Args[i].L[0] = cons.Int(api.Coef + 1); return c }),
			with(func(c api.Con) api.Con { c.Args[i].L[0] = cons.Set(2, 1); return c }),
		)
		if !c.Args[i].Array {
			out[api.ErrCon] = append(out[api.ErrCon], with(func(c api.Con) api.Con { c.Args[i].L = nil; return c }))
			continue
		}
		out[api.ErrSize] = append(out[api.ErrSize], with(func(c api.Con) api.Con {
			c.Args[i].L = make([]api.Term, api.MaxArray+1)
			return c
		}))
	}
	return out
}

// P7.1, P7.2, and so of chapters 8 to 13: what can not be is refused as cons.Right does, ahead of values and domains that can not be; these only of the constraint's own variables.
func TestRefused(t *testing.T) {
	each(t, func(t *testing.T, f face, name string, _ game) {
		c, isSet := sample(name)
		vals, doms := rightVals(isSet), rightDoms(isSet)
		badVals, badDoms := slices.Clone(vals), slices.Clone(doms)
		for n, s := range isSet {
			badVals[n], badDoms[n] = wrongVals(s)[0], wrongDoms(s)[0]
		}
		for want, l := range broken(c, len(isSet)) {
			for _, b := range l {
				if e := cons.Right(b, isSet); e != want {
					t.Error("Right", cons.Text(b), e)
				}
				refuses(t, f, b, vals, doms, want)
				refuses(t, f, b, badVals, badDoms, want)
			}
		}
		refuses(t, f, c, nil, nil, api.ErrCon)
		refuses(t, f, c, vals[1:], doms[1:], api.ErrCon)
		for n, s := range isSet { // a variable of the other kind
			v, d := slices.Clone(badVals), slices.Clone(badDoms)
			v[n].Set, d[n].Set = !s, !s
			refuses(t, f, c, v, d, api.ErrCon)
		}
	})
}

// P7.1, P7.2, and so of chapters 8 to 13: a value or a domain of each variable of the constraint that can not be.
func TestWrongValuesAndDomains(t *testing.T) {
	each(t, func(t *testing.T, f face, name string, _ game) {
		c, isSet := sample(name)
		for n, s := range isSet {
			for _, bad := range wrongVals(s) {
				v := rightVals(isSet)
				v[n] = bad
				if ok, e := f.holds(c, v); ok || e != api.ErrArg {
					t.Error("Holds", name, v, ok, e)
				}
				if next := (n + 1) % len(v); !isSet[next] {
					v[next].N = 2 // no truth, if it should be one
				}
				if ok, e := f.holds(c, v); ok || e != api.ErrArg {
					t.Error("Holds", name, v, ok, e)
				}
			}
			for _, bad := range wrongDoms(s) {
				d := rightDoms(isSet)
				d[n] = bad
				if got, what, e := f.prune(c, d); got != nil || what != 0 || e != api.ErrDom {
					t.Error("Prune", name, d, got, what, e)
				}
				next := (n + 1) % len(d)
				d[next] = emptyDom(isSet[next])
				if got, what, e := f.prune(c, d); got != nil || what != 0 || e != api.ErrDom {
					t.Error("Prune, one empty", name, d, got, what, e)
				}
			}
		}
	})
}

func emptyDom(isSet bool) api.Dom {
	if isSet {
		return set(nil, nil, 1, 0)
	}
	return num()
}

// P7.2, and so of chapters 8 to 13: an empty domain of one of its variables is Fail; what other variables have plays no part, and stays as it is.
func TestEmptyAndOthers(t *testing.T) {
	each(t, func(t *testing.T, f face, name string, _ game) {
		c, isSet := sample(name)
		for n, s := range isSet {
			d := rightDoms(isSet)
			d[n] = emptyDom(s)
			if got, what, e := f.prune(c, d); len(got) > 0 || what != api.Fail || e != api.OK {
				t.Error("Prune", name, d, got, what, e)
			}
		}
		d, v := rightDoms(isSet), rightVals(isSet)
		_, alone, _ := f.prune(c, d)
		ok, _ := f.holds(c, v)
		d = append(d, emptyDom(false), emptyDom(true))
		for _, s := range []bool{true, false} {
			d, v = append(d, wrongDoms(s)...), append(v, wrongVals(s)...)
		}
		got, what, e := f.prune(c, d)
		if what != alone || e != api.OK || what != api.Fail && !sameDoms(got[len(isSet):], d[len(isSet):]) {
			t.Error("Prune with others", name, what, e)
		}
		if again, e := f.holds(c, v); again != ok || e != api.OK {
			t.Error("Holds with others", name, again, e)
		}
	})
}
