package cons_test

import (
	"fmt"
	"math"
	"slices"
	"strings"
	"testing"

	"jigsaw/api"
	"jigsaw/cons"
)

// P5.1: all names, in order, each with its form and its family.
func TestTable(t *testing.T) {
	var names []string
	for name, form := range listed() {
		names = append(names, name)
		if got := cons.Form(name); got != form {
			t.Errorf("Form(%s) = %q; want %q", name, got, form)
		}
	}
	if got := slices.Collect(cons.Names()); !slices.Equal(got, names) || len(got) != 105 {
		t.Error("Names", len(got), got)
	}
	at := 0
	for _, family := range document() {
		for range strings.Split(family.text, "; ") {
			if got := cons.Family(names[at]); got != family.family {
				t.Errorf("Family(%s) = %q; want %q", names[at], got, family.family)
			}
			at++
		}
	}
}

// P5.1: what is no name has no form and no family.
func TestNoName(t *testing.T) {
	for _, name := range []string{"", " ", "x", "int", "int_", "int_e", "int_eq ", " int_eq", "int_eq int_ne", "INT_EQ", "int_eqq", "int_eq\x00", "\xff", "linear", "I,I", "int_lin_lt", "fzn_", "fzn_regular_", "float_eq", "bool_lin_ne", "bool_lin_eq_reif"} {
		if cons.Form(name) != "" || cons.Family(name) != "" {
			t.Errorf("of %q: %q, %q", name, cons.Form(name), cons.Family(name))
		}
	}
}

// P5.1: the iterator can be left at each place, and gone through again.
func TestNamesLeft(t *testing.T) {
	names := cons.Names()
	all := slices.Collect(names)
	for stop := range all {
		var got []string
		for name := range names {
			if len(got) == stop {
				break
			}
			got = append(got, name)
		}
		if !slices.Equal(got, all[:stop]) {
			t.Error("Names, left", stop, got)
		}
	}
}

// P5.2: the variables, rising, none twice, whatever else is wrong.
func TestVars(t *testing.T) {
	for _, c := range []struct {
		c    api.Con
		want []int
	}{
		{api.Con{}, nil},
		{api.Con{Name: "int_le", Args: []api.Arg{cons.One(cons.Int(1)), cons.One(cons.Int(7))}}, nil},
		{api.Con{Name: "int_lin_le", Args: []api.Arg{cons.List(cons.Int(2), cons.Int(-1)), cons.List(cons.Var(0), cons.Var(3)), cons.One(cons.Int(5))}}, []int{0, 3}},
		{api.Con{Name: "none", Args: []api.Arg{cons.List(cons.Var(9), cons.Var(2), cons.Var(9)), {}, cons.One(cons.Var(5)), cons.List(), cons.List(cons.Var(2), cons.Var(0))}}, []int{0, 2, 5, 9}},
		{api.Con{Args: []api.Arg{{L: []api.Term{{Var: math.MaxInt, C: api.Val{N: 3}}, {Var: -2}, {Var: math.MinInt}, {Var: -1}, {}}}}}, []int{0, math.MaxInt}},
		{api.Con{Args: []api.Arg{cons.One(cons.Set(4, 5)), cons.One(cons.Var(1))}}, []int{1}},
	} {
		if got := cons.Vars(c.c); !slices.Equal(got, c.want) {
			t.Error("Vars", c.c, got, c.want)
		}
	}
}

// differing is constraints no two of which are the same: each differs from the first in one field.
func differing() []api.Con {
	one := func(term api.Term) api.Con {
		return api.Con{Name: "set_eq", Args: []api.Arg{cons.List(cons.Int(1), cons.Set(1, 2)), cons.One(term)}}
	}
	first := one(cons.Set(3, 4))
	name, fewer, more, array, shorter := cons.Copy(first), cons.Copy(first), cons.Copy(first), cons.Copy(first), cons.Copy(first)
	name.Name = "set_ne"
	fewer.Args = fewer.Args[:1]
	more.Args = append(more.Args, api.Arg{})
	array.Args[0].Array = false
	shorter.Args[0].L = shorter.Args[0].L[:1]
	return []api.Con{
		first, name, fewer, more, array, shorter, {}, {Name: "set_eq"},
		one(cons.Set(3)), one(cons.Set(3, 5)), one(cons.Set(4, 3)), one(cons.Set(3, 4, 5)), one(cons.Set()),
		one(api.Term{Var: 0, C: api.Val{Set: true, S: []int64{3, 4}}}),
		one(api.Term{Var: -2, C: api.Val{Set: true, S: []int64{3, 4}}}),
		one(api.Term{Var: -1, C: api.Val{Set: true, N: 1, S: []int64{3, 4}}}),
		one(api.Term{Var: -1, C: api.Val{S: []int64{3, 4}}}),
	}
}

// P5.2: Same goes field by field; P5.7: a copy is the same.
func TestSame(t *testing.T) {
	all := differing()
	for i, a := range all {
		for j, b := range all {
			if cons.Same(a, b) != (i == j) || cons.Same(a, cons.Copy(b)) != (i == j) {
				t.Error("Same", a, b)
			}
		}
	}
	for c := range samples() {
		if !cons.Same(c, cons.Copy(c)) {
			t.Error("Copy", c)
		}
	}
	a := api.Con{Name: "int_le", Args: []api.Arg{{Array: true, L: []api.Term{}}, {L: []api.Term{{Var: -1, C: api.Val{S: []int64{}}}}}}}
	b := api.Con{Name: "int_le", Args: []api.Arg{{Array: true}, {L: []api.Term{{Var: -1}}}}}
	if !cons.Same(a, b) || !cons.Same(api.Con{Args: []api.Arg{}}, api.Con{}) {
		t.Error("an empty list is a nil one")
	}
}

// P5.7: a copy goes its own way, in both directions.
func TestCopyGoesItsOwnWay(t *testing.T) {
	all := differing()
	for c := range samples() {
		all = append(all, c)
	}
	for _, c := range all {
		want, kept := fmt.Sprint(c), cons.Copy(c)
		spoil(cons.Copy(c))
		if fmt.Sprint(c) != want {
			t.Error("writing into the copy changed", want)
		}
		spoil(c)
		if fmt.Sprint(kept) != want {
			t.Error("the copy was changed", want, kept)
		}
	}
}

// P5.3: terms and arguments.
func TestTerms(t *testing.T) {
	for _, n := range []int64{0, 1, -1, maxBig + 1, -maxCoef - 1, least, greatest} {
		if x := cons.Int(n); x.Var != -1 {
			t.Error("Int", x)
		}
		alike(t, "Int", cons.Int(n).C, api.Val{N: n})
	}
	for _, l := range append(noSets(), nil, []int64{}, []int64{1, 2}, run(64, -5)) {
		if x := cons.Set(l...); x.Var != -1 {
			t.Error("Set", x)
		}
		alike(t, "Set", cons.Set(l...).C, api.Val{Set: true, S: l})
	}
	for _, v := range []int{0, 1, 999, -1, -2, math.MinInt, math.MaxInt} {
		if x := cons.Var(v); x.Var != v {
			t.Error("Var", x)
		}
		alike(t, "Var", cons.Var(v).C, api.Val{})
	}
	odd := api.Term{Var: 3, C: api.Val{Set: true, N: 4, S: []int64{9, 8}}}
	one, list := cons.One(odd), cons.List(odd, cons.Int(2))
	if one.Array || len(one.L) != 1 || one.L[0].Var != 3 || !list.Array || len(list.L) != 2 || list.L[0].Var != 3 || list.L[1].Var != -1 {
		t.Error("One, List", one, list)
	}
	alike(t, "One", one.L[0].C, odd.C)
	alike(t, "List", list.L[0].C, odd.C)
	alike(t, "List", list.L[1].C, api.Val{N: 2})
	if l := cons.List(); !l.Array || len(l.L) != 0 {
		t.Error("List of none", l)
	}
}

// P5.3: a term's value.
func TestOf(t *testing.T) {
	v := []api.Val{{N: 1}, {Set: true, S: []int64{4, 7}}, {N: 5, S: []int64{2, 1}}}
	for _, c := range []struct {
		t    api.Term
		want api.Val
		e    api.Errno
	}{
		{cons.Int(9), api.Val{N: 9}, api.OK},
		{cons.Int(greatest), api.Val{N: greatest}, api.OK},
		{cons.Set(1, 3), api.Val{Set: true, S: []int64{1, 3}}, api.OK},
		{cons.Var(-1), api.Val{}, api.OK},
		{cons.Var(0), v[0], api.OK},
		{cons.Var(1), v[1], api.OK},
		{cons.Var(2), v[2], api.OK},
		{api.Term{Var: 1, C: api.Val{N: 3}}, v[1], api.OK},
		{cons.Var(3), api.Val{}, api.ErrArg},
		{cons.Var(math.MaxInt), api.Val{}, api.ErrArg},
		{cons.Var(-2), api.Val{}, api.ErrArg},
		{cons.Var(math.MinInt), api.Val{}, api.ErrArg},
		{api.Term{Var: -2, C: api.Val{Set: true, N: 3, S: []int64{1}}}, api.Val{}, api.ErrArg},
		{api.Term{Var: 3, C: api.Val{Set: true, N: 3, S: []int64{1}}}, api.Val{}, api.ErrArg},
	} {
		got, e := cons.Of(c.t, v)
		alike(t, "Of", got, c.want)
		if e != c.e {
			t.Error("Of", c.t, e, c.e)
		}
	}
	if got, e := cons.Of(cons.Var(0), nil); e != api.ErrArg || got.N != 0 {
		t.Error("Of no values", got, e)
	}
	if got, e := cons.Of(cons.Int(4), nil); e != api.OK || got.N != 4 {
		t.Error("Of a constant, no values", got, e)
	}
}

// Rules 4 and 5: no list that is handed in is kept, and none that is handed out is seen again.
func TestListsAreNew(t *testing.T) {
	l := append(make([]int64, 0, 9), 1, 2)
	term := cons.Set(l...)
	l[0] = 5
	alike(t, "Set kept its list", term.C, api.Val{Set: true, S: []int64{1, 2}})
	one := cons.One(term)
	terms := append(make([]api.Term, 0, 9), term, cons.Var(4))
	list := cons.List(terms...)
	value, _ := cons.Of(term, nil)
	v := []api.Val{{Set: true, S: []int64{1, 2}}}
	other, _ := cons.Of(cons.Var(0), v)
	term.C.S[0], v[0].S[0], terms[1] = 6, 6, cons.Var(8)
	for _, got := range []api.Val{one.L[0].C, list.L[0].C, value, other} {
		alike(t, "a list was kept", got, api.Val{Set: true, S: []int64{1, 2}})
	}
	if list.L[1].Var != 4 {
		t.Error("List kept its terms", list)
	}
	value.S[0], other.S[0], one.L[0].C.S[0], list.L[0].C.S[0] = 7, 7, 7, 7
	if term.C.S[0] != 6 || v[0].S[0] != 6 {
		t.Error("what is handed out is what was handed in", term, v)
	}
	c := api.Con{Args: []api.Arg{cons.List(cons.Var(3), cons.Var(1))}}
	vars := cons.Vars(c)
	vars[0] = 9
	if c.Args[0].L[0].Var != 3 || !slices.Equal(cons.Vars(c), []int{1, 3}) {
		t.Error("Vars", c)
	}
}
