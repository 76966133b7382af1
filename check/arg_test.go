package check_test

import (
	"fmt"
	"slices"
	"strings"
	"testing"

	"jigsaw/api"
	"jigsaw/check"
	"jigsaw/cons"
)

// forms is the letters of forms, with their kinds, and whether a variable may stand there.
func forms() map[string]struct {
	kind int
	vars bool
} {
	return map[string]struct {
		kind int
		vars bool
	}{"b": {api.YBool, false}, "i": {api.YInt, false}, "s": {api.YSet, false}, "B": {api.YBool, true}, "I": {api.YInt, true}, "S": {api.YSet, true}}
}

// asked holds what Arg answers against what is wanted: an error, or terms.
func asked(t *testing.T, v *check.Env, x api.Expr, form string, e api.Errno, want string) {
	t.Helper()
	a, got := v.Arg(x, form)
	if got != e || e != api.OK && (a.Array || a.L != nil) {
		t.Fatalf("Arg(%+v, %q) = %v, %d; want %d", x, form, a, got, e)
	}
	if e == api.OK && (a.Array != strings.HasPrefix(form, "a") || terms(a.L...) != want) {
		t.Fatalf("Arg(%+v, %q) = %v; want %s", x, form, a, want)
	}
}

// text is what a thing is as a term: of the variables of ahead x is 0, b is 1, v is 2.
func (c thing) text() string {
	switch {
	case c.isVar:
		return map[int]string{api.YInt: "x0", api.YBool: "x1", api.YSet: "x2"}[c.kind]
	case c.kind == api.YSet:
		return terms(cons.Set(c.values...))
	}
	return fmt.Sprint(c.values[0])
}

// P17.3: each form of one thing, with each thing, against the model of things.
func TestArgOfOne(t *testing.T) {
	v := env(t, ahead)
	for form, f := range forms() {
		for _, c := range things() {
			e := c.fault(f.kind, f.vars, nil, false)
			want := ""
			if e == api.OK {
				want = c.text()
			}
			asked(t, v, c.x, form, e, want)
		}
	}
}

// P17.3: each form of an array, with arrays of each thing: of several faults the first one's.
func TestArgOfArray(t *testing.T) {
	v := env(t, ahead)
	for form, f := range forms() {
		asked(t, v, array(), "a"+form, api.OK, "")
		for _, a := range things() {
			for _, b := range things() {
				e, want := api.OK, ""
				for _, c := range []thing{a, b} {
					if e == api.OK {
						e = c.fault(f.kind, f.vars, nil, false)
					}
				}
				if e == api.OK {
					want = a.text() + ", " + b.text()
				}
				asked(t, v, array(a.x, b.x), "a"+form, e, want)
			}
		}
	}
}

// P17.3: names of arrays, of the kind and of another one, of constants and not; and what is neither a name nor an array.
func TestArgOfArrayName(t *testing.T) {
	const all = "b i s B I S"
	v := env(t, ahead+"array [1..2] of bool: ts = [true, false]; array [1..1] of var bool: bs = [b]; array [1..1] of set of int: ss = [s]; "+
		"array [1..2] of int: small = [7, -7]; array [1..1] of var int: fixed = [4]; array [1..0] of var int: none = [];")
	for _, c := range []struct{ name, forms, want string }{
		{"ns", "i", "1, 5, 1000001"},
		{"small", "i I", "7, -7"},
		{"fixed", "i I", "4"},
		{"none", "i I", ""},
		{"xs", "I", "x0, 2"},
		{"vs", "S", "x2, {1,9}"},
		{"ss", "s S", "{2,4}"},
		{"ts", "b B", "1, 0"},
		{"bs", "B", "x1"},
		{"n", "", ""}, {"x", "", ""}, {"s", "", ""}, {"v", "", ""}, {"b", "", ""},
	} {
		for form := range strings.FieldsSeq(all) {
			e, want := api.ErrType, ""
			if slices.Contains(strings.Fields(c.forms), form) {
				e, want = api.OK, c.want
			}
			asked(t, v, name(c.name), "a"+form, e, want)
			asked(t, v, api.Expr{Kind: api.ECall, Name: c.name}, "a"+form, api.ErrType, "")
			asked(t, v, api.Expr{Kind: api.EString, Name: c.name}, "a"+form, api.ErrType, "")
			asked(t, v, at(c.name, 1), "a"+form, api.ErrType, "")
		}
	}
	for form := range strings.FieldsSeq(all) {
		asked(t, v, name("nobody"), "a"+form, api.ErrName, "")
		asked(t, v, at("nobody", 1), "a"+form, api.ErrType, "")
		for _, x := range []api.Expr{truth(1), number(1), span(1, 2), set(1), call("f", name("nobody")), {}, {Kind: 10}} {
			asked(t, v, x, "a"+form, api.ErrType, "")
		}
	}
}

// P17.3: ErrArg of a form that is none, whatever the expression is.
func TestArgOfNoForm(t *testing.T) {
	v := env(t, ahead)
	for _, form := range []string{"", "a", "aa", "aai", "x", "ii", "i,i", "ai,", "A", "Ai", "ia", " i", "i ", "\u0130", "\u017f", "a\u0130", "int", "\x00"} {
		for _, x := range []api.Expr{number(1), name("nobody"), array(), array(name("nobody"))} {
			asked(t, v, x, form, api.ErrArg, "")
		}
	}
}

// P17.3: at most MaxArray elements: ErrSize goes ahead of the elements' errors, and behind those of the name.
func TestArgOfManyElements(t *testing.T) {
	var l []api.Decl
	for _, d := range []struct {
		name string
		n    int
		x    api.Expr
	}{{"most", api.MaxArray, number(1)}, {"more", api.MaxArray + 1, number(1)}, {"truths", api.MaxArray + 1, truth(1)}} {
		kind := api.YInt
		if d.x.Kind == api.EBool {
			kind = api.YBool
		}
		l = append(l, api.Decl{Name: d.name, Type: api.Type{Kind: kind, Array: true, Size: int64(d.n)}, Has: true, Value: array(many(d.n, d.x)...)})
	}
	v, e, _ := check.New(l)
	if e != api.OK {
		t.Fatal("New", e)
	}
	ones := strings.Repeat("1, ", api.MaxArray-1) + "1"
	for _, form := range []string{"ai", "aI"} {
		asked(t, v, name("most"), form, api.OK, ones)
		asked(t, v, name("more"), form, api.ErrSize, "")
		asked(t, v, name("truths"), form, api.ErrType, "")
		asked(t, v, array(many(api.MaxArray, number(1))...), form, api.OK, ones)
		asked(t, v, array(many(api.MaxArray+1, number(1))...), form, api.ErrSize, "")
		asked(t, v, array(many(api.MaxArray+1, name("nobody"))...), form, api.ErrSize, "")
	}
	asked(t, v, at("more", api.MaxArray+1), "I", api.OK, "1")
}

// P17.4: constraints, and what is no constraint.
func TestCon(t *testing.T) {
	const decls = "int: n = 3; var 1..5: x; array [1..2] of var int: a = [x, n]; var int: y = x; var bool: b; var set of 1..3: s; array [1..2] of int: c = [1, 2]; "
	v := env(t, decls)
	for _, c := range []struct {
		s    string
		e    api.Errno
		want string
	}{
		{"int_le(a[2], x)", api.OK, "int_le(3, x0)"},
		{"int_le(x, y)", api.OK, "int_le(x0, x1)"},
		{"int_le_reif(x, -4, b)", api.OK, "int_le_reif(x0, -4, x2)"},
		{"int_lin_eq(c, a, n)", api.OK, "int_lin_eq([1, 2], [x0, 3], 3)"},
		{"int_lin_eq([n, 1000000000], [x, y], -1000000000)", api.OK, "int_lin_eq([3, 1000000000], [x0, x1], -1000000000)"},
		{"set_in(x, s)", api.OK, "set_in(x0, x3)"},
		{"set_in(x, 4..2)", api.OK, "set_in(x0, {})"},
		{"set_in(x, {3, 1, 3})", api.OK, "set_in(x0, {1,3})"},
		{"bool_clause([b, true], [])", api.OK, "bool_clause([x2, 1], [])"},
		{"fzn_all_different_int(a)", api.OK, "fzn_all_different_int([x0, 3])"},
		{"fzn_regular(a, 1, 3, [1, 1, 1], 1, {1})", api.OK, "fzn_regular([x0, 3], 1, 3, [1, 1, 1], 1, {1})"},
		{"foo(1)", api.ErrMore, ""},
		{"foo(z)", api.ErrMore, ""},
		{"int_le2(x, y)", api.ErrMore, ""},
		{"a(x)", api.ErrMore, ""},
		{"int_le()", api.ErrType, ""},
		{"int_le(z)", api.ErrType, ""},
		{"int_le(x, y, z)", api.ErrType, ""},
		{"int_le(z, 1)", api.ErrName, ""},
		{"int_le(a, 1)", api.ErrType, ""},
		{"int_le(a, z)", api.ErrType, ""},
		{"int_le(z, a)", api.ErrName, ""},
		{"int_le(x, true)", api.ErrType, ""},
		{"int_le(x, b)", api.ErrType, ""},
		{"int_le(x, s)", api.ErrType, ""},
		{"int_le(x, 1000001)", api.ErrType, ""},
		{"int_lin_eq(a, a, 3)", api.ErrType, ""},
		{"int_lin_eq(c, a, x)", api.ErrType, ""},
		{"int_lin_eq([1], a, 3)", api.ErrType, ""},
		{"int_lin_eq([1], a, z)", api.ErrName, ""},
		{"fzn_maximum_int(x, [])", api.ErrType, ""},
		{"fzn_global_cardinality([x], [1, 1], a)", api.ErrType, ""},
		{"fzn_table_int([x, y], [1, 2, 3])", api.ErrType, ""},
		{"fzn_regular(a, 1, 1, [2], 1, {1})", api.ErrType, ""},
		{"fzn_bin_packing(1, a, [-1, 1])", api.ErrType, ""},
	} {
		item := read(t, "constraint "+c.s+" :: note(z);").Cons[0]
		got, e := v.Con(item)
		if e != c.e || e == api.OK && cons.Text(got) != c.want || e != api.OK && (got.Name != "" || got.Args != nil) {
			t.Errorf("Con(%s) = %s, %d; want %s, %d", c.s, cons.Text(got), e, c.want, c.e)
		}
	}
	long := api.Item{Name: "fzn_all_different_int", Args: []api.Expr{array(many(api.MaxArray+1, name("z"))...)}}
	if _, e := v.Con(long); e != api.ErrSize {
		t.Error("Con of a long array", e)
	}
}

// P17.4: each constraint of chapter 5 takes arguments of its form, and not one less or more.
func TestConOfEachName(t *testing.T) {
	v := env(t, ahead)
	for s := range cons.Names() {
		args := map[string]api.Expr{"i": number(1), "b": truth(1), "s": set(1), "I": name("x"), "B": name("b"), "S": name("v"),
			"ai": array(number(1)), "ab": array(truth(1)), "as": array(set(1)), "aI": array(name("x")), "aB": array(name("b")), "aS": array(name("v"))}
		var l []api.Expr
		for f := range strings.SplitSeq(cons.Form(s), ",") {
			l = append(l, args[f])
		}
		if c, e := v.Con(api.Item{Name: s, Args: l}); e != api.OK || c.Name != s || len(c.Args) != len(l) {
			t.Error(s, cons.Text(c), e)
		}
		if c, e := v.Con(api.Item{Name: s, Args: l[1:]}); e != api.ErrType || c.Name != "" {
			t.Error(s, "with one less", e)
		}
		if c, e := v.Con(api.Item{Name: s, Args: append(l, number(1))}); e != api.ErrType || c.Name != "" {
			t.Error(s, "with one more", e)
		}
	}
}
