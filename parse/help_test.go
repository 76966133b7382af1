package parse_test

import (
	"fmt"
	"math"
	"strings"
	"testing"

	"jigsaw/api"
	"jigsaw/parse"
)

const (
	least    = math.MinInt64
	greatest = math.MaxInt64
	maxBig   = int64(api.Big)
	maxCoef  = int64(api.Coef)
	tail     = " solve satisfy;"
)

func short(s string) string {
	if len(s) <= 200 {
		return s
	}
	return s[:100] + " .. " + s[len(s)-100:]
}

// read is the program of a text, which must be one.
func read(t *testing.T, s string) api.Program {
	t.Helper()
	p, e, at := parse.Parse(s)
	if e != api.OK || at != 0 {
		t.Fatalf("Parse(%q): %d, %d", short(s), e, at)
	}
	return p
}

// refused asks for an error at the place of the @ in the text, which is taken out of it, and for no program.
func refused(t *testing.T, marked string, want api.Errno) {
	t.Helper()
	place := strings.Index(marked, "@")
	s := marked[:place] + marked[place+1:]
	p, e, at := parse.Parse(s)
	if e != want || at != place || !isZero(p) {
		t.Errorf("Parse(%q) = %s, %d, %d; want %d, %d", short(s), short(fmt.Sprint(p)), e, at, want, place)
	}
}

func isZero(p api.Program) bool {
	return p.Decls == nil && p.Cons == nil && p.Anns == nil && p.Goal == 0 && fmt.Sprint(p.Of) == fmt.Sprint(api.Expr{})
}

func truth(n int64) api.Expr   { return api.Expr{Kind: api.EBool, N: n} }
func number(n int64) api.Expr  { return api.Expr{Kind: api.EInt, N: n} }
func span(n, m int64) api.Expr { return api.Expr{Kind: api.ERange, N: n, M: m} }
func name(s string) api.Expr   { return api.Expr{Kind: api.EName, Name: s} }
func text(s string) api.Expr   { return api.Expr{Kind: api.EString, Name: s} }

func at(s string, n int64) api.Expr { return api.Expr{Kind: api.EAt, Name: s, N: n} }

func array(l ...api.Expr) api.Expr { return api.Expr{Kind: api.EArray, L: l} }

func call(s string, l ...api.Expr) api.Expr { return api.Expr{Kind: api.ECall, Name: s, L: l} }

func set(l ...int64) api.Expr {
	e := api.Expr{Kind: api.ESet}
	for _, v := range l {
		e.L = append(e.L, number(v))
	}
	return e
}

func r(lo, hi int64) api.Range { return api.Range{Lo: lo, Hi: hi} }

func ranges(l ...api.Range) []api.Range { return l }

// some is n numbers, as a list's elements.
func some(n int) []api.Expr {
	out := make([]api.Expr, n)
	for i := range out {
		out[i] = number(1)
	}
	return out
}

// deep is an expression of n brackets within one another.
func deep(n int) api.Expr {
	e := array()
	for range n - 1 {
		e = array(e)
	}
	return e
}

// spoil writes into all lists of a program, and appends to them.
func spoil(p api.Program) {
	for i := range p.Decls {
		for j := range p.Decls[i].Type.Dom {
			p.Decls[i].Type.Dom[j] = r(99, 98)
		}
		_ = append(p.Decls[i].Type.Dom, r(99, 98))
		spoilExprs(p.Decls[i].Anns)
		spoilExprs(p.Decls[i].Value.L)
		p.Decls[i] = api.Decl{Name: "spoilt"}
	}
	for i := range p.Cons {
		spoilExprs(p.Cons[i].Args)
		spoilExprs(p.Cons[i].Anns)
		p.Cons[i] = api.Item{Name: "spoilt"}
	}
	_ = append(p.Decls, api.Decl{Name: "spoilt"})
	_ = append(p.Cons, api.Item{Name: "spoilt"})
	spoilExprs(p.Anns)
	spoilExprs(p.Of.L)
}

func spoilExprs(l []api.Expr) {
	for i := range l {
		spoilExprs(l[i].L)
		l[i] = name("spoilt")
	}
	_ = append(l, name("spoilt"))
}

// everything is a text with each form of all that a program has.
const everything = `bool: yes = true;
int: n = 007;
1..5: m = 3;
set of int: s = {3, 1, 1};
set of 1..9: u = 2..4;
{3, 1, 2, 9}: k :: "of any kind" = 9;
var bool: b :: output_var;
var int: x = y;
var -3..3: y :: output_var :: is_defined_var;
var {}: none;
var set of {5, 1}: z;
array [1..0] of int: nothing = [];
array [1..2] of bool: truths = [true, false];
array [1..3] of var int: a :: output_array([1..3]) = [x, a[2], -7];
array [1..1] of var set of int: sets = [{}];
constraint c();
constraint int_le(x, a[1]) :: domain :: defines_var(x);
constraint f([g(h([]), {1}, "t"), 1..0], {}) :: [1, [2]];
solve :: int_search(a, first_fail, indomain_min, complete) :: s minimize a[3];
`
