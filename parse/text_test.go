package parse_test

import (
	"math/rand"
	"reflect"
	"strings"
	"testing"

	"jigsaw/api"
	"jigsaw/dom"
	"jigsaw/parse"
)

// P16.2: how expressions are written.
func TestExpr(t *testing.T) {
	for want, e := range map[string]api.Expr{
		"true":                 truth(1),
		"false":                truth(0),
		"-7":                   number(-7),
		"9223372036854775807":  number(greatest),
		"-9223372036854775808": number(least),
		"1..5":                 span(1, 5),
		"5..-1":                span(5, -1),
		"{}":                   set(),
		"{5}":                  set(5),
		"{3, 1, 3}":            set(3, 1, 3),
		"x":                    name("x"),
		"x[-3]":                at("x", -3),
		"[]":                   array(),
		"[1, x, []]":           array(number(1), name("x"), array()),
		"f()":                  call("f"),
		"f(g(1), \"a\")":       call("f", call("g", number(1)), text("a")),
		"\"\"":                 text(""),
		"\"a % b\xff\"":        text("a % b\xff"),
		"any name;":            name("any name;"),
		"var[2]":               at("var", 2),
		"(1)":                  call("", number(1)),
		"\"a\"b\n\"":           text("a\"b\n"),
		"{x, [1..2], {}}":      {Kind: api.ESet, L: []api.Expr{name("x"), array(span(1, 2)), set()}},
		"8":                    {Kind: api.EInt, N: 8, M: 3, Name: "x", L: some(2)},
		"y":                    {Kind: api.EName, N: 8, M: 3, Name: "y", L: some(2)},
		"[, 1, ]":              array(api.Expr{}, number(1), api.Expr{Kind: 10, Name: "x"}),
		"f(, )":                call("f", api.Expr{Kind: -1, N: 1}, api.Expr{Kind: greatest, L: some(1)}),
		strings.Repeat("[", 20) + strings.Repeat("]", 20): deep(20),
	} {
		if got := parse.Expr(e); got != want {
			t.Errorf("Expr(%v) = %q; want %q", e, got, want)
		}
	}
	for _, kind := range []int{0, 10, -1, greatest, least} {
		if got := parse.Expr(api.Expr{Kind: kind, N: 1, M: 2, Name: "x", L: some(3)}); got != "" {
			t.Errorf("Expr of kind %d: %q", kind, got)
		}
	}
}

// P1, P16.2: lists that are longer, and deeper, than can be read.
func TestExprOfMuch(t *testing.T) {
	if got, want := parse.Expr(array(some(5000)...)), "["+strings.Repeat("1, ", 4999)+"1]"; got != want {
		t.Error("Expr of 5000 elements", len(got))
	}
	const n = 60000
	e := deep(n)
	if got, want := parse.Expr(e), strings.Repeat("[", n)+strings.Repeat("]", n); got != want {
		t.Error("Expr of depth", n, len(got))
	}
	p := api.Program{Goal: api.Minimize, Of: e}
	if !parse.Same(p, parse.Copy(p)) || parse.Right(p) != api.ErrParse || parse.Same(p, api.Program{Goal: api.Minimize, Of: deep(n - 1)}) {
		t.Error("Same, Copy, Right of depth", n)
	}
	name := strings.Repeat("x", 3*api.MaxText)
	if got := parse.Expr(api.Expr{Kind: api.EName, Name: name}); got != name {
		t.Error("Expr of a long name", len(got))
	}
}

// P16.2: how types are written.
func TestType(t *testing.T) {
	for want, kind := range map[string]api.Type{
		"bool":                              {Kind: api.YBool},
		"int":                               {Kind: api.YInt},
		"set of int":                        {Kind: api.YSet},
		"var bool":                          {Var: true, Kind: api.YBool},
		"var set of int":                    {Var: true, Kind: api.YSet},
		"array [1..0] of int":               {Array: true, Kind: api.YInt},
		"array [1..1000] of var bool":       {Array: true, Var: true, Size: 1000, Kind: api.YBool},
		"array [1..-5] of set of int":       {Array: true, Size: -5, Kind: api.YSet},
		"1..3":                              {Kind: api.YInt, Full: true, Dom: ranges(r(1, 3))},
		"-4..-4":                            {Kind: api.YInt, Full: true, Dom: ranges(r(-4, -4))},
		"var -1000000..1000000":             {Var: true, Kind: api.YInt, Full: true, Dom: ranges(r(-maxBig, maxBig))},
		"{}":                                {Kind: api.YInt, Full: true},
		"var set of {}":                     {Var: true, Kind: api.YSet, Full: true, Dom: ranges()},
		"var set of {1, 2, 5}":              {Var: true, Kind: api.YSet, Full: true, Dom: ranges(r(1, 2), r(5, 5))},
		"array [1..2] of var {-3, 0, 1, 2}": {Array: true, Size: 2, Var: true, Kind: api.YInt, Full: true, Dom: ranges(r(-3, -3), r(0, 2))},
		"array [1..2] of set of 2..2":       {Array: true, Size: 2, Kind: api.YSet, Full: true, Dom: ranges(r(2, 2))},
	} {
		if got := parse.Type(kind); got != want {
			t.Errorf("Type(%v) = %q; want %q", kind, got, want)
		}
	}
}

// P16.2: types that can not be: a Kind that there is not, a dom of truths or one that is not there, a size of no array.
func TestTypeOfOdd(t *testing.T) {
	for _, kind := range []int{0, 4, -1, greatest, least} {
		for _, x := range []api.Type{{}, {Var: true}, {Array: true, Size: 3}, {Var: true, Array: true, Full: true, Dom: ranges(r(1, 2))}} {
			x.Kind = kind
			if got := parse.Type(x); got != "" {
				t.Errorf("Type(%v) = %q", x, got)
			}
		}
	}
	if got := parse.Type(api.Type{Kind: api.YBool, Full: true, Dom: ranges(r(0, 1))}); got != "bool" {
		t.Errorf("a dom of truths: %q", got)
	}
	if got := parse.Type(api.Type{Kind: api.YSet, Dom: ranges(r(0, 1))}); got != "set of int" {
		t.Errorf("a dom that is not there: %q", got)
	}
	if got := parse.Type(api.Type{Kind: api.YInt, Size: 4}); got != "int" {
		t.Errorf("a size of no array: %q", got)
	}
}

// P16.2: ranges that are not right are none; of more than one at most 1001 values are written.
func TestTypeOfRanges(t *testing.T) {
	for _, l := range append(wrongRanges(), comb(1000), comb(1002), comb(api.MaxRanges), ranges(r(0, 999), r(1001, 1001)), ranges(r(0, 998), r(1001, 1001))) {
		want := []string{}
		for v := range dom.Each(l) {
			if len(want) < 1001 {
				want = append(want, parse.Expr(number(v)))
			}
		}
		text := "{" + strings.Join(want, ", ") + "}"
		if dom.Right(l) && len(l) == 1 {
			text = want[0] + ".." + want[len(want)-1]
		}
		if got := parse.Type(api.Type{Kind: api.YInt, Full: true, Dom: l}); got != text {
			t.Errorf("of %v: %s; want %s", l[:min(len(l), 5)], short(got), short(text))
		}
	}
}

// P16.2: a program as a whole, with each form of all that it has, is written as the document says.
func TestPrint(t *testing.T) {
	want := `bool: yes = true;
int: n = 7;
1..5: m = 3;
set of int: s = {3, 1, 1};
set of 1..9: u = 2..4;
{1, 2, 3, 9}: k :: "of any kind" = 9;
var bool: b :: output_var;
var int: x = y;
var -3..3: y :: output_var :: is_defined_var;
var {}: none;
var set of {1, 5}: z;
array [1..0] of int: nothing = [];
array [1..2] of bool: truths = [true, false];
array [1..3] of var int: a :: output_array([1..3]) = [x, a[2], -7];
array [1..1] of var set of int: sets = [{}];
constraint c();
constraint int_le(x, a[1]) :: domain :: defines_var(x);
constraint f([g(h([]), {1}, "t"), 1..0], {}) :: [1, [2]];
solve :: int_search(a, first_fail, indomain_min, complete) :: s minimize a[3];
`
	p := read(t, everything)
	if got, e := parse.Print(p); e != api.OK || got != want {
		t.Errorf("Print: %s, %d; want %s", got, e, want)
	}
	if again := read(t, want); !parse.Same(p, again) {
		t.Error("it is read as another one", again)
	}
	for want, p := range map[string]api.Program{
		"solve satisfy;\n":           {},
		"solve :: a satisfy;\n":      {Anns: []api.Expr{name("a")}},
		"solve minimize x;\n":        {Goal: api.Minimize, Of: name("x")},
		"solve :: a maximize [1];\n": {Anns: []api.Expr{name("a")}, Goal: api.Maximize, Of: array(number(1))},
	} {
		if got, e := parse.Print(p); e != api.OK || got != want {
			t.Errorf("Print: %q, %d; want %q", got, e, want)
		}
	}
}

// P16.2, P16.4: of each form of a type and of an expression: what is written is read as the same.
func TestPrintOfForms(t *testing.T) {
	var p api.Program
	for _, kind := range types() {
		p.Decls = append(p.Decls, api.Decl{Type: kind, Name: "x"})
	}
	for _, e := range exprs() {
		p.Cons = append(p.Cons, api.Item{Name: "c", Args: []api.Expr{e, e}, Anns: []api.Expr{e}})
	}
	s, e := parse.Print(p)
	if e != api.OK || !parse.Same(read(t, s), p) {
		t.Error("Print", e)
	}
}

// filled is a program whose text has just so many bytes.
func filled(size int) api.Program {
	p := api.Program{Goal: api.Minimize}
	p.Of = name(strings.Repeat("x", size-len("solve minimize ;\n")))
	return p
}

// P16.2, P16.4: a text of MaxText bytes, and of one more; what is read may be written too long.
func TestPrintOfLongTexts(t *testing.T) {
	p := filled(api.MaxText)
	if s, e := parse.Print(p); e != api.OK || len(s) != api.MaxText || !parse.Same(read(t, s), p) {
		t.Error("Print of MaxText bytes", len(s), e)
	}
	if s, e := parse.Print(filled(api.MaxText + 1)); e != api.ErrParse || s != "" || parse.Right(filled(api.MaxText+1)) != api.ErrParse {
		t.Error("Print of MaxText bytes and one", len(s), e)
	}
	dense := strings.Repeat("constraint c("+strings.Repeat("1,", 999)+"1);", 30)
	p = read(t, dense+tail)
	if s, e := parse.Print(p); e != api.ErrParse || s != "" || parse.Right(p) != api.ErrParse {
		t.Error("Print of what is too long", len(s), e)
	}
}

// P16.2: what is written does not hang on what was written before, and is as Right says.
func TestPrintChangesNothing(t *testing.T) {
	random := rand.New(rand.NewSource(3))
	for range 2000 {
		p := maker{random, 2}.program()
		kept := parse.Copy(p)
		s, e := parse.Print(p)
		again, f := parse.Print(p)
		if s != again || e != f || e != parse.Right(p) || e != api.OK && s != "" {
			t.Fatal("Print", s, again, e, f)
		}
		for _, d := range p.Decls {
			parse.Type(d.Type)
			parse.Expr(d.Value)
		}
		parse.Same(p, kept)
		if !reflect.DeepEqual(p, kept) {
			t.Fatal("what was handed in was changed", p, kept)
		}
	}
}
