package parse_test

import (
	"reflect"
	"testing"

	"jigsaw/api"
	"jigsaw/dom"
	"jigsaw/parse"
)

// P16.1, P16.2: the document's examples.
func TestExamples(t *testing.T) {
	p := read(t, "var 1..3: x :: output_var; constraint int_le(x, 2); solve maximize x;")
	want := api.Program{
		Decls: []api.Decl{{Type: api.Type{Var: true, Kind: api.YInt, Full: true, Dom: ranges(r(1, 3))}, Name: "x", Anns: []api.Expr{name("output_var")}}},
		Cons:  []api.Item{{Name: "int_le", Args: []api.Expr{name("x"), number(2)}}},
		Goal:  api.Maximize,
		Of:    name("x"),
	}
	if !reflect.DeepEqual(p, want) {
		t.Error("Parse", p)
	}
	if s, e := parse.Print(p); e != api.OK || s != "var 1..3: x :: output_var;\nconstraint int_le(x, 2);\nsolve maximize x;\n" {
		t.Error("Print", s, e)
	}
	refused(t, "solve satisfy@", api.ErrParse)
	refused(t, "var @float: x; solve satisfy;", api.ErrMore)
	if e := parse.Right(read(t, "array [1..2] of int: a = [1, 2]; solve satisfy;")); e != api.OK {
		t.Error("Right", e)
	}
}

// basics is each form of a basic type, as text and as a type.
func basics() map[string]api.Type {
	full := func(kind int, l ...api.Range) api.Type { return api.Type{Kind: kind, Full: true, Dom: l} }
	return map[string]api.Type{
		"bool":                       {Kind: api.YBool},
		"int":                        {Kind: api.YInt},
		"set of int":                 {Kind: api.YSet},
		"1..3":                       full(api.YInt, r(1, 3)),
		"-3..-1":                     full(api.YInt, r(-3, -1)),
		"5..5":                       full(api.YInt, r(5, 5)),
		"3..1":                       full(api.YInt),
		"1000000..-1000000":          full(api.YInt),
		"-1000000..1000000":          full(api.YInt, r(-maxBig, maxBig)),
		"{}":                         full(api.YInt),
		"{7}":                        full(api.YInt, r(7, 7)),
		"{1, 2}":                     full(api.YInt, r(1, 2)),
		"{3, 1, 2, 1, 3}":            full(api.YInt, r(1, 3)),
		"{9, -4, 3, 8, 1}":           full(api.YInt, r(-4, -4), r(1, 1), r(3, 3), r(8, 9)),
		"{1000000, -1000000, -0, 0}": full(api.YInt, r(-maxBig, -maxBig), r(0, 0), r(maxBig, maxBig)),
		"{02, 2, 002}":               full(api.YInt, r(2, 2)),
		"set of 1..3":                full(api.YSet, r(1, 3)),
		"set of 3..1":                full(api.YSet),
		"set of {}":                  full(api.YSet),
		"set of {4, 2, 4}":           full(api.YSet, r(2, 2), r(4, 4)),
		"set of -1000000..1000000":   full(api.YSet, r(-maxBig, maxBig)),
		"set of {1000000, -1000000}": full(api.YSet, r(-maxBig, -maxBig), r(maxBig, maxBig)),
	}
}

// types is each form of a type: a basic one alone, of a variable, of an array and of both.
func types() map[string]api.Type {
	sizes := map[string]int64{"0": 0, "1": 1, "1000": 1000, "-0": 0, "007": 7}
	out := map[string]api.Type{}
	for s, kind := range basics() {
		one := kind
		out[s] = one
		one.Var = true
		out["var "+s] = one
		for size, n := range sizes {
			many := kind
			many.Array, many.Size = true, n
			out["array [1.."+size+"] of "+s] = many
			many.Var = true
			out["array [1.."+size+"] of var "+s] = many
			out["array[01.."+size+"]of var "+s] = many
		}
	}
	return out
}

// P16.1: what each form of a type says, in a declaration with a value and without.
func TestTypes(t *testing.T) {
	for s, want := range types() {
		p := read(t, s+": x;"+tail)
		if d := p.Decls[0]; len(p.Decls) != 1 || !sameType(d.Type, want) || d.Name != "x" || d.Has || d.Anns != nil || !reflect.DeepEqual(d.Value, api.Expr{}) {
			t.Errorf("%s: %v; want %v", s, d, want)
		}
		p = read(t, s+": x :: a :: b = 1; "+s+": y = [];"+tail)
		first, second := p.Decls[0], p.Decls[1]
		if !sameType(first.Type, want) || !first.Has || !reflect.DeepEqual(first.Value, number(1)) || !reflect.DeepEqual(first.Anns, []api.Expr{name("a"), name("b")}) {
			t.Errorf("%s: %v; want %v", s, first, want)
		}
		if !sameType(second.Type, want) || !second.Has || !sameExpr(second.Value, array()) || second.Anns != nil || second.Name != "y" {
			t.Errorf("%s: %v; want %v", s, second, want)
		}
	}
}

func sameType(a, b api.Type) bool {
	if len(a.Dom) == 0 && len(b.Dom) == 0 {
		a.Dom, b.Dom = nil, nil
	}
	return reflect.DeepEqual(a, b)
}

// sameExpr: are two alike? By another way than Same's, so that Same can be held against it.
func sameExpr(a, b api.Expr) bool {
	if len(a.L) != len(b.L) {
		return false
	}
	for i := range a.L {
		if !sameExpr(a.L[i], b.L[i]) {
			return false
		}
	}
	a.L, b.L = nil, nil
	return reflect.DeepEqual(a, b)
}

// P16.1: a dom's values are what dom.Norm makes of them, of all lists of three of some numbers.
func TestDomsAreNorm(t *testing.T) {
	numbers := map[string]int64{"-1000000": -maxBig, "-999999": 1 - maxBig, "-1": -1, "0": 0, "1": 1, "2": 2, "1000000": maxBig}
	for a, x := range numbers {
		for b, y := range numbers {
			for c, z := range numbers {
				want, _ := dom.Norm(ranges(r(x, x), r(y, y), r(z, z)))
				s := "{" + a + "," + b + "," + c + "}"
				if got := read(t, "var "+s+": x;"+tail).Decls[0].Type; !got.Full || !reflect.DeepEqual(got.Dom, want) {
					t.Errorf("%s: %v; want %v", s, got, want)
				}
			}
			want, _ := dom.Norm(ranges(r(x, y)))
			if got := read(t, a+".."+b+": x;"+tail).Decls[0].Type; !got.Full || len(got.Dom) != len(want) || len(want) == 1 && got.Dom[0] != want[0] {
				t.Errorf("%s..%s: %v; want %v", a, b, got, want)
			}
		}
	}
}

// exprs is each form of an expression, as text and as one.
func exprs() map[string]api.Expr {
	return map[string]api.Expr{
		"true":                       truth(1),
		"false":                      truth(0),
		"0":                          number(0),
		"-0":                         number(0),
		"007":                        number(7),
		"1000000000":                 number(maxCoef),
		"-1000000000":                number(-maxCoef),
		"1..5":                       span(1, 5),
		"5..1":                       span(5, 1),
		"-1000000000..1000000000":    span(-maxCoef, maxCoef),
		"{}":                         set(),
		"{ 5 }":                      set(5),
		"{3, 1, 3, -1000000000}":     set(3, 1, 3, -maxCoef),
		"x":                          name("x"),
		"_":                          name("_"),
		"True":                       name("True"),
		"truex":                      name("truex"),
		"x[1]":                       at("x", 1),
		"x [ -1000000000 ]":          at("x", -maxCoef),
		"f()":                        call("f"),
		"f(1)":                       call("f", number(1)),
		"f (x, y)":                   call("f", name("x"), name("y")),
		"f(g(h()), [])":              call("f", call("g", call("h")), array()),
		"[]":                         array(),
		"[1]":                        array(number(1)),
		"[[], [[]]]":                 array(array(), array(array())),
		"[true, 1..2, {1}, x[3]]":    array(truth(1), span(1, 2), set(1), at("x", 3)),
		`""`:                         text(""),
		`"a % b"`:                    text("a % b"),
		"\"\xff\x00\r\t\\\"":         text("\xff\x00\r\t\\"),
		`f("a", "b")`:                call("f", text("a"), text("b")),
		"int_search(a, b, c, d)":     call("int_search", name("a"), name("b"), name("c"), name("d")),
		"output_array([1..2, 0..0])": call("output_array", array(span(1, 2), span(0, 0))),
	}
}

// P16.1: what each form of an expression says, wherever one can stand.
func TestExpressions(t *testing.T) {
	for s, want := range exprs() {
		p := read(t, "int: a :: "+s+" :: "+s+" = "+s+"; constraint c("+s+", "+s+") :: "+s+" :: "+s+"; solve :: "+s+" :: "+s+" minimize "+s+";")
		d, c := p.Decls[0], p.Cons[0]
		both := array(want, want)
		for _, got := range []api.Expr{d.Value, p.Of} {
			if !sameExpr(got, want) {
				t.Errorf("%s: %v; want %v", s, got, want)
			}
		}
		for _, got := range [][]api.Expr{d.Anns, c.Args, c.Anns, p.Anns} {
			if !sameExpr(array(got...), both) {
				t.Errorf("%s: %v; want %v", s, got, both)
			}
		}
		p = read(t, "solve :: ["+s+"] :: f("+s+", x, "+s+") maximize "+s+";")
		if p.Goal != api.Maximize || !sameExpr(p.Of, want) || !sameExpr(array(p.Anns...), array(array(want), call("f", want, name("x"), want))) {
			t.Errorf("%s: %v", s, p)
		}
	}
}

// P16.1: constraints, with arguments and annotations and without.
func TestConstraints(t *testing.T) {
	p := read(t, "constraint c(); constraint d(1, x) :: a; constraint e() :: a :: b(1);"+tail)
	want := []api.Item{
		{Name: "c"},
		{Name: "d", Args: []api.Expr{number(1), name("x")}, Anns: []api.Expr{name("a")}},
		{Name: "e", Anns: []api.Expr{name("a"), call("b", number(1))}},
	}
	if len(p.Decls) != 0 || !reflect.DeepEqual(p.Cons, want) {
		t.Error("constraints", p)
	}
}

// P16.1: each form of the solve.
func TestSolves(t *testing.T) {
	for s, want := range map[string]api.Program{
		"solve satisfy;":                         {},
		"solve::a satisfy;":                      {Anns: []api.Expr{name("a")}},
		"solve :: a() :: [b] satisfy;":           {Anns: []api.Expr{call("a"), array(name("b"))}},
		"solve minimize x;":                      {Goal: api.Minimize, Of: name("x")},
		"solve :: a minimize 3;":                 {Anns: []api.Expr{name("a")}, Goal: api.Minimize, Of: number(3)},
		"solve maximize x[2];":                   {Goal: api.Maximize, Of: at("x", 2)},
		"solve :: a :: b maximize \"anything\";": {Anns: []api.Expr{name("a"), name("b")}, Goal: api.Maximize, Of: text("anything")},
	} {
		if got := read(t, s); !reflect.DeepEqual(got, want) {
			t.Errorf("%s: %v; want %v", s, got, want)
		}
	}
}

// P16.1: names may be any other words, the same ones more than once; what a name is of is not asked.
func TestNames(t *testing.T) {
	for _, s := range []string{"x", "_", "X9", "trues", "Int", "variable", "constraints", "solve_", "minimise", "of1", "output_var", "e5"} {
		p := read(t, "int: "+s+"; var int: "+s+" :: "+s+"; constraint "+s+"("+s+");"+tail)
		if p.Decls[0].Name != s || p.Decls[1].Name != s || p.Cons[0].Name != s {
			t.Error(s, p)
		}
	}
}

// P16.5: with comments and blanks between all tokens, with as few as can be, and as it stands.
func TestEverything(t *testing.T) {
	p := read(t, everything)
	if len(p.Decls) != 15 || len(p.Cons) != 3 || len(p.Anns) != 2 || p.Goal != api.Minimize {
		t.Error("Parse", p)
	}
	for _, gap := range []string{" ", "\n", "\t\r\n ", "%\n", " % var int: y;\n", "%a\n%\"\n"} {
		if got := read(t, spread(t, everything, gap)); !parse.Same(got, p) || !reflect.DeepEqual(got, p) {
			t.Errorf("with %q between: %v", gap, got)
		}
	}
}
