package post_test

import (
	"fmt"
	"strings"
	"testing"

	"jigsaw/api"
	"jigsaw/cons"
	"jigsaw/dom"
	"jigsaw/parse"
	"jigsaw/post"
)

const maxBig = int64(api.Big)

func number(n int64) api.Expr  { return api.Expr{Kind: api.EInt, N: n} }
func span(n, m int64) api.Expr { return api.Expr{Kind: api.ERange, N: n, M: m} }
func name(s string) api.Expr   { return api.Expr{Kind: api.EName, Name: s} }
func text(s string) api.Expr   { return api.Expr{Kind: api.EString, Name: s} }

func at(s string, n int64) api.Expr { return api.Expr{Kind: api.EAt, Name: s, N: n} }

func array(l ...api.Expr) api.Expr { return api.Expr{Kind: api.EArray, L: l} }

func call(s string, l ...api.Expr) api.Expr { return api.Expr{Kind: api.ECall, Name: s, L: l} }

func r(lo, hi int64) api.Range { return api.Range{Lo: lo, Hi: hi} }

func num(l ...api.Range) api.Dom { return api.Dom{R: l} }

func list(l ...int64) []int64 { return l }

// read is the program of a text.
func read(t testing.TB, s string) api.Program {
	t.Helper()
	p, e, at := parse.Parse(s)
	if e != api.OK {
		t.Fatalf("Parse(%.200q): %d, %d", s, e, at)
	}
	return p
}

// posted is the problem of a text, which must be one.
func posted(t testing.TB, s string) api.Problem {
	t.Helper()
	p, e, part, at := post.Post(read(t, s))
	if e != api.OK || part != 0 || at != 0 {
		t.Fatalf("Post(%.200q): %d, %d, %d", s, e, part, at)
	}
	return p
}

// refused asks for an error, a part and a number, and for no problem.
func refused(t *testing.T, p api.Program, e api.Errno, part, at int) {
	t.Helper()
	x, f, inPart, inAt := post.Post(p)
	if f != e || inPart != part || inAt != at || told(x) != told(api.Problem{}) {
		s, _ := parse.Print(p)
		t.Errorf("Post(%.300q) = %s, %d, %d, %d; want %d, %d, %d", s, told(x), f, inPart, inAt, e, part, at)
	}
}

// terms is terms as text.
func terms(l []api.Term) string {
	return strings.Trim(cons.Text(api.Con{Args: []api.Arg{{L: l}}}), "()")
}

// told is a problem as text: its variables, its constraints, its goal, its phases, its outputs.
func told(p api.Problem) string {
	var vars, l, phases, outs []string
	for _, d := range p.Vars {
		s := dom.Text(d.R)
		if d.Set {
			s = fmt.Sprintf("%v..%v#%d..%d", d.Lo, d.Up, d.Least, d.Most)
		}
		vars = append(vars, s)
	}
	for _, c := range p.Cons {
		l = append(l, cons.Text(c))
	}
	for _, f := range p.Phases {
		phases = append(phases, fmt.Sprint(f.Vars, f.Select, f.Value))
	}
	for _, o := range p.Outs {
		s := fmt.Sprint(o.Name, ":", o.Kind)
		if o.One {
			s += " one"
		}
		for _, d := range o.Dims {
			s += fmt.Sprint(" ", d.Lo, "..", d.Hi)
		}
		outs = append(outs, s+" ["+terms(o.L)+"]")
	}
	return strings.Join(vars, " ") + " | " + strings.Join(l, "; ") + " | " + fmt.Sprint(p.Goal, " of ", p.Of) + " | " + strings.Join(phases, "; ") + " | " + strings.Join(outs, "; ")
}
