package check_test

import (
	"fmt"
	"strings"
	"testing"

	"jigsaw/api"
	"jigsaw/check"
	"jigsaw/cons"
	"jigsaw/dom"
	"jigsaw/parse"
)

const (
	maxBig  = int64(api.Big)
	maxCoef = int64(api.Coef)
)

func truth(n int64) api.Expr   { return api.Expr{Kind: api.EBool, N: n} }
func number(n int64) api.Expr  { return api.Expr{Kind: api.EInt, N: n} }
func span(n, m int64) api.Expr { return api.Expr{Kind: api.ERange, N: n, M: m} }
func name(s string) api.Expr   { return api.Expr{Kind: api.EName, Name: s} }
func text(s string) api.Expr   { return api.Expr{Kind: api.EString, Name: s} }

func at(s string, n int64) api.Expr { return api.Expr{Kind: api.EAt, Name: s, N: n} }

func array(l ...api.Expr) api.Expr { return api.Expr{Kind: api.EArray, L: l} }

func call(s string, l ...api.Expr) api.Expr { return api.Expr{Kind: api.ECall, Name: s, L: l} }

func set(l ...int64) api.Expr {
	e := api.Expr{Kind: api.ESet}
	for _, v := range l {
		e.L = append(e.L, number(v))
	}
	return e
}

func r(lo, hi int64) api.Range { return api.Range{Lo: lo, Hi: hi} }

func ranges(l ...api.Range) []api.Range { return l }

// many is n times the same expression.
func many(n int, x api.Expr) []api.Expr {
	out := make([]api.Expr, n)
	for i := range out {
		out[i] = x
	}
	return out
}

// every is n numbers, with one between each two of them.
func every(n int) []int64 {
	out := make([]int64, n)
	for i := range out {
		out[i] = int64(2 * i)
	}
	return out
}

// read is the program of declarations and constraints, as text.
func read(t testing.TB, s string) api.Program {
	t.Helper()
	p, e, at := parse.Parse(s + " solve satisfy;")
	if e != api.OK {
		t.Fatalf("Parse(%q): %d, %d", s, e, at)
	}
	return p
}

// env is the names of declarations, as text, which must be right.
func env(t testing.TB, s string) *check.Env {
	t.Helper()
	v, e, at := check.New(read(t, s).Decls)
	if e != api.OK || at != 0 {
		t.Fatalf("New(%q): %d, %d", s, e, at)
	}
	return v
}

// terms is terms as text.
func terms(l ...api.Term) string {
	return strings.Trim(cons.Text(api.Con{Args: []api.Arg{{L: l}}}), "()")
}

// domain is a domain as text.
func domain(d api.Dom) string {
	if d.Set {
		return fmt.Sprint("sets ", d.R, d.Lo, d.Up, d.Least, d.Most)
	}
	return strings.TrimSuffix(dom.Text(d.R)+fmt.Sprint(d.Lo, d.Up, d.Least, d.Most), "[] [] 0 0")
}

// known is what a name is, as text: its kind, what Term and what Array answer.
func known(v *check.Env, s string) string {
	out := []string{fmt.Sprint(v.Kind(s))}
	if t, e := v.Term(s); e == api.OK {
		out = append(out, terms(t))
	} else {
		out = append(out, fmt.Sprint("E", e))
	}
	if l, e := v.Array(s); e == api.OK {
		out = append(out, "["+terms(l...)+"]")
	} else {
		out = append(out, fmt.Sprint("E", e))
	}
	return strings.Join(out, " ")
}

// told is all that is asked of names, as text.
func told(v *check.Env) string {
	var out []string
	for _, s := range v.Names() {
		out = append(out, s+": "+known(v, s))
	}
	for i, d := range v.Vars() {
		out = append(out, fmt.Sprintf("x%d in %s", i, domain(d)))
	}
	for _, c := range v.Extra() {
		out = append(out, cons.Text(c))
	}
	return strings.Join(out, "; ")
}
