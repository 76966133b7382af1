package check_test

import (
	"fmt"
	"testing"

	"jigsaw/api"
	"jigsaw/check"
)

// P17.1, P17.2: what each kind of declaration is: Var and not, an array and not, with a value and without, with a dom and without.
func TestDeclarations(t *testing.T) {
	for _, c := range []struct{ s, want string }{
		{"", ""},
		{"bool: c = true;", "c: 1 1 E170"},
		{"int: c = -7;", "c: 2 -7 E170"},
		{"1..3: c = 3;", "c: 2 3 E170"},
		{"{1, 5}: c = 5;", "c: 2 5 E170"},
		{"set of int: c = {3, 1, 3};", "c: 3 {1,3} E170"},
		{"set of 1..100: c = 99..100;", "c: 3 {99,100} E170"},
		{"set of {}: c = {};", "c: 3 {} E170"},
		{"var bool: x;", "x: 1 x0 E170; x0 in 0..1"},
		{"var int: x;", "x: 2 x0 E170; x0 in -1000000..1000000"},
		{"var 1..3: x;", "x: 2 x0 E170; x0 in 1..3"},
		{"var {7, 1, 2}: x;", "x: 2 x0 E170; x0 in 1..2,7"},
		{"var {}: x;", "x: 2 x0 E170; x0 in {}"},
		{"var 3..1: x;", "x: 2 x0 E170; x0 in {}"},
		{"var set of 1..3: x;", "x: 3 x0 E170; x0 in sets [] [] [1 2 3] 0 3"},
		{"var set of {9, 1}: x;", "x: 3 x0 E170; x0 in sets [] [] [1 9] 0 2"},
		{"var set of {}: x;", "x: 3 x0 E170; x0 in sets [] [] [] 0 0"},
		{"var set of 2..1: x;", "x: 3 x0 E170; x0 in sets [] [] [] 0 0"},
		{"var bool: x = false;", "x: 1 x0 E170; x0 in 0..1; bool_eq(x0, 0)"},
		{"var int: x = 5;", "x: 2 x0 E170; x0 in -1000000..1000000; int_eq(x0, 5)"},
		{"var 1..3: x = 3;", "x: 2 x0 E170; x0 in 1..3; int_eq(x0, 3)"},
		{"var set of 1..3: x = {2};", "x: 3 x0 E170; x0 in sets [] [] [1 2 3] 0 3; set_eq(x0, {2})"},
		{"array [1..2] of bool: a = [true, false];", "a: 1 E170 [1, 0]"},
		{"array [1..2] of int: a = [4, 4];", "a: 2 E170 [4, 4]"},
		{"array [1..2] of 1..4: a = [1, 4];", "a: 2 E170 [1, 4]"},
		{"array [1..2] of set of int: a = [{}, 1..2];", "a: 3 E170 [{}, {1,2}]"},
		{"array [1..1] of set of 1..4: a = [{4, 1}];", "a: 3 E170 [{1,4}]"},
		{"array [1..0] of int: a = [];", "a: 2 E170 []"},
		{"array [1..0] of var set of int: a = [];", "a: 3 E170 []"},
		{"var bool: x; array [1..2] of var bool: a = [true, x];", "x: 1 x0 E170; a: 1 E170 [1, x0]; x0 in 0..1"},
		{"int: n = 3; var 1..5: x; array [1..2] of var int: a = [x, n]; var int: y = x;", "n: 2 3 E170; x: 2 x0 E170; a: 2 E170 [x0, 3]; y: 2 x1 E170; x0 in 1..5; x1 in -1000000..1000000; int_eq(x1, x0)"},
		{"var set of 1..1: x; array [1..2] of var set of int: a = [x, {5}]; set of int: s = a[2];", "x: 3 x0 E170; a: 3 E170 [x0, {5}]; s: 3 {5} E170; x0 in sets [] [] [1] 0 1"},
		{"array [1..2] of 1..9: a = [4, 5]; int: n = a[2]; array [1..2] of int: b = [n, a[1]];", "a: 2 E170 [4, 5]; n: 2 5 E170; b: 2 E170 [5, 4]"},
		{"var 1..2: x; var set of {}: s = {}; var bool: b; var bool: c = b; var 1..2: y = x; array [1..2] of var int: a = [x, y]; var 2..3: z = a[1];",
			"x: 2 x0 E170; s: 3 x1 E170; b: 1 x2 E170; c: 1 x3 E170; y: 2 x4 E170; a: 2 E170 [x0, x4]; z: 2 x5 E170; " +
				"x0 in 1..2; x1 in sets [] [] [] 0 0; x2 in 0..1; x3 in 0..1; x4 in 1..2; x5 in 2..3; set_eq(x1, {}); bool_eq(x3, x2); int_eq(x4, x0); int_eq(x5, x0)"},
	} {
		if got := told(env(t, c.s)); got != c.want {
			t.Errorf("%s\ngot  %s\nwant %s", c.s, got, c.want)
		}
	}
}

// P17.1: the first declaration at fault, its number and error.
func TestFaultsAsText(t *testing.T) {
	for _, c := range []struct {
		s    string
		want api.Errno
		at   int
	}{
		{"var 1..5: x; int: x = 1;", api.ErrTwice, 1},
		{"int: x = 1; int: y = 2; var set of int: x;", api.ErrTwice, 2},
		{"array [1..1] of var 1..2: a = [1];", api.ErrMore, 0},
		{"array [1..1] of var {}: a = [1];", api.ErrMore, 0},
		{"array [1..1] of var set of 1..2: a;", api.ErrMore, 0},
		{"var set of int: s;", api.ErrMore, 0},
		{"var set of int: s = {};", api.ErrMore, 0},
		{"var set of 1..64: s;", api.OK, 0},
		{"var set of 1..65: s;", api.ErrMore, 0},
		{"array [1..1] of set of 1..65: s = [{65}];", api.OK, 0},
		{"set of 1..65: s = {65};", api.OK, 0},
		{"int: n;", api.ErrType, 0},
		{"bool: n;", api.ErrType, 0},
		{"array [1..0] of int: a;", api.ErrType, 0},
		{"array [1..2] of var int: a;", api.ErrType, 0},
		{"array [1..2] of int: a = [1];", api.ErrType, 0},
		{"array [1..2] of int: a = [1, 2, 3];", api.ErrType, 0},
		{"array [1..2] of int: a = [x];", api.ErrType, 0},
		{"array [1..1] of int: a = 1;", api.ErrType, 0},
		{"array [1..1] of int: a = [1]; array [1..1] of int: b = a;", api.ErrType, 1},
		{"array [1..1] of set of int: a = {1};", api.ErrType, 0},
		{"array [1..1] of int: a = [[1]];", api.ErrType, 0},
		{"array [1..1] of int: a = [[x]];", api.ErrType, 0},
		{"int: n = [1];", api.ErrType, 0},
		{"int: n = [x];", api.ErrType, 0},
		{"int: n = f(x);", api.ErrType, 0},
		{"int: n = \"1\";", api.ErrType, 0},
		{"var int: n = f();", api.ErrType, 0},
		{"int: n = m;", api.ErrName, 0},
		{"int: n = n;", api.ErrName, 0},
		{"int: n = m; int: m = 1;", api.ErrName, 0},
		{"int: n = m[1];", api.ErrName, 0},
		{"int: n = m[0];", api.ErrName, 0},
		{"var 1..2: x = y;", api.ErrName, 0},
		{"array [1..2] of int: a = [1, a[1]];", api.ErrName, 0},
		{"array [1..2] of int: a = [true, x];", api.ErrType, 0},
		{"array [1..2] of int: a = [x, true];", api.ErrName, 0},
		{"array [1..3] of int: a = [1, x, true];", api.ErrName, 0},
		{"int: n = true;", api.ErrType, 0},
		{"int: n = {1};", api.ErrType, 0},
		{"int: n = 1..1;", api.ErrType, 0},
		{"bool: n = 1;", api.ErrType, 0},
		{"set of int: n = 1;", api.ErrType, 0},
		{"var bool: b = 0;", api.ErrType, 0},
		{"var bool: b; var int: n = b;", api.ErrType, 1},
		{"var int: x; int: n = x;", api.ErrType, 1},
		{"var int: x; array [1..2] of int: n = [1, x];", api.ErrType, 1},
		{"var int: x; array [1..2] of var int: n = [1, x]; int: m = n[2];", api.ErrType, 2},
		{"var int: x; array [1..2] of var int: n = [1, x]; int: m = n[1];", api.OK, 0},
		{"array [1..2] of int: a = [1, 2]; int: n = a;", api.ErrType, 1},
		{"array [1..2] of int: a = [1, 2]; int: n = a[0];", api.ErrType, 1},
		{"array [1..2] of int: a = [1, 2]; int: n = a[2];", api.OK, 0},
		{"array [1..2] of int: a = [1, 2]; int: n = a[3];", api.ErrType, 1},
		{"array [1..2] of int: a = [1, 2]; bool: n = a[1];", api.ErrType, 1},
		{"int: a = 1; int: n = a[1];", api.ErrType, 1},
		{"1..3: n = 4;", api.ErrType, 0},
		{"{}: n = 4;", api.ErrType, 0},
		{"{1, 3}: n = 2;", api.ErrType, 0},
		{"int: m = 4; 1..3: n = m;", api.ErrType, 1},
		{"array [1..2] of 1..3: n = [3, 4];", api.ErrType, 0},
		{"var 1..3: n = 4;", api.ErrType, 0},
		{"var 1..9: x; var 1..3: n = x;", api.OK, 0},
		{"set of 1..3: n = {1, 4};", api.ErrType, 0},
		{"set of {1, 3}: n = 1..2;", api.ErrType, 0},
		{"var set of 1..3: n = {1, 4};", api.ErrType, 0},
		{"array [1..2] of set of 1..3: n = [{}, {4}];", api.ErrType, 0},
		{"int: a = 1; int: b = c; int: a = 2;", api.ErrName, 1},
		{"int: a = 1; int: a = 2; int: b = c;", api.ErrTwice, 1},
	} {
		v, e, at := check.New(read(t, c.s).Decls)
		if e != c.want || at != c.at || (v != nil) != (e == api.OK) {
			t.Errorf("New(%q) = %v, %d, %d; want %d, %d", c.s, v != nil, e, at, c.want, c.at)
		}
	}
}

// P17.1: a constant whole number is from -10^9 to 10^9; where a variable may stand, from -Big to Big.
func TestBounds(t *testing.T) {
	for _, c := range []struct {
		s    string
		most int64
	}{
		{"int: n = %d;", maxCoef},
		{"array [1..2] of int: n = [0, %d];", maxCoef},
		{"int: m = %d; int: n = m;", maxCoef},
		{"array [1..1] of int: m = [%d]; int: n = m[1];", maxCoef},
		{"var int: n = %d;", maxBig},
		{"array [1..2] of var int: n = [0, %d];", maxBig},
		{"int: m = %d; var int: n = m;", maxBig},
		{"array [1..1] of int: m = [%d]; var int: n = m[1];", maxBig},
		{"int: m = %d; array [1..1] of var int: n = [m];", maxBig},
	} {
		for _, sign := range []int64{-1, 1} {
			if v, e, at := check.New(read(t, fmt.Sprintf(c.s, sign*c.most)).Decls); v == nil || e != api.OK || at != 0 {
				t.Error(c.s, sign*c.most, e, at)
			}
			l := read(t, fmt.Sprintf(c.s, sign)).Decls
			beyond := number(sign * (c.most + 1))
			for i := range l {
				if l[i].Value.Kind == api.EInt {
					l[i].Value = beyond
				}
				for j := range l[i].Value.L {
					if l[i].Value.L[j].Kind == api.EInt {
						l[i].Value.L[j] = beyond
					}
				}
			}
			want := 0
			if c.most == maxBig {
				want = len(l) - 1
			}
			if v, e, at := check.New(l); v != nil || e != api.ErrType || at != want {
				t.Error(c.s, beyond.N, e, at)
			}
		}
	}
}

// P17.1: sets as constants: ranges that are none, long ones, values that stand twice, and beyond.
func TestSetConstants(t *testing.T) {
	ok := func(x api.Expr, want string) {
		t.Helper()
		v, e, _ := check.New([]api.Decl{{Name: "s", Type: api.Type{Kind: api.YSet}, Has: true, Value: x}})
		if e != api.OK || known(v, "s") != "3 "+want+" E170" {
			t.Error(x, e, known(v, "s"), "want", want)
		}
	}
	no := func(x api.Expr) {
		t.Helper()
		if v, e, _ := check.New([]api.Decl{{Name: "s", Type: api.Type{Kind: api.YSet}, Has: true, Value: x}}); v != nil || e != api.ErrType {
			t.Error(x, e)
		}
	}
	ok(span(2, 1), "{}")
	ok(span(1, 1), "{1}")
	ok(span(-maxBig, -maxBig+1), "{-1000000,-999999}")
	ok(span(maxBig, maxBig), "{1000000}")
	ok(span(maxBig+1, maxBig), "{}")
	ok(span(1<<62, -1<<62), "{}")
	ok(span(-maxBig, -maxBig-1), "{}")
	no(span(-maxBig-1, -maxBig))
	no(span(maxBig, maxBig+1))
	no(span(-maxBig-1, -maxBig-2))
	no(span(maxBig+2, maxBig+1))
	no(span(-1<<63, 1<<63-1))
	no(span(-maxBig, maxBig))
	ok(span(1, api.MaxElems), terms(api.Term{Var: -1, C: api.Val{Set: true, S: upTo(api.MaxElems)}}))
	no(span(0, api.MaxElems))
	ok(set(), "{}")
	ok(set(5, 1, 5, -3, 1), "{-3,1,5}")
	ok(set(maxBig, -maxBig), "{-1000000,1000000}")
	no(set(1, maxBig+1))
	no(set(-maxBig - 1))
	ok(set(every(64)...), terms(api.Term{Var: -1, C: api.Val{Set: true, S: every(64)}}))
	ok(set(append(every(64), every(64)...)...), terms(api.Term{Var: -1, C: api.Val{Set: true, S: every(64)}}))
	no(set(every(65)...))
	no(set(every(5000)...))
	no(api.Expr{Kind: api.ESet, L: []api.Expr{truth(1)}})
	no(api.Expr{Kind: api.ESet, L: []api.Expr{number(1), span(1, 2)}})
}

func upTo(n int64) []int64 {
	var out []int64
	for v := int64(1); v <= n; v++ {
		out = append(out, v)
	}
	return out
}

// P17.2: of names that there are not, of nil, and of no declarations.
func TestNoNames(t *testing.T) {
	v := env(t, "int: n = 3; array [1..1] of int: a = [1];")
	for _, s := range []string{"", "m", "N", "n ", "a[1]"} {
		if got := known(v, s); got != "0 E171 E171" {
			t.Error(s, got)
		}
	}
	var none *check.Env
	if got := known(none, "n"); got != "0 E2 E2" {
		t.Error("of nil", got)
	}
	if none.Vars() != nil || none.Extra() != nil || none.Names() != nil {
		t.Error("of nil: lists")
	}
	if a, e := none.Arg(number(1), "x"); e != api.ErrNil || a.Array || a.L != nil {
		t.Error("of nil: Arg", a, e)
	}
	if c, e := none.Con(api.Item{Name: "x"}); e != api.ErrNil || c.Name != "" || c.Args != nil {
		t.Error("of nil: Con", c, e)
	}
	empty, e, at := check.New(nil)
	if e != api.OK || at != 0 || told(empty) != "" || known(empty, "") != "0 E171 E171" {
		t.Error("of no declarations", e, at)
	}
	zero := &check.Env{}
	if told(zero) != "" || known(zero, "") != "0 E171 E171" {
		t.Error("of the zero one")
	}
}
