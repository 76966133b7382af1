package parse_test

import (
	"math/rand"
	"testing"

	"jigsaw/api"
	"jigsaw/lex"
	"jigsaw/parse"
)

// maker makes programs; odd says how often, in a hundred, a field is one that can not be.
type maker struct {
	*rand.Rand
	odd int
}

func (m maker) isOdd() bool { return m.Intn(100) < m.odd }

func (m maker) pick(l ...int64) int64 { return l[m.Intn(len(l))] }

func (m maker) number() int64 {
	if m.isOdd() {
		return m.pick(maxCoef+1, -maxCoef-1, least, greatest)
	}
	return m.pick(0, 1, 2, 7, 1000)
}

func (m maker) name() string {
	names := []string{"x", "y", "f", "_1", "output_var"}
	if m.isOdd() {
		names = append(reserved(), "", " ", "1", "x y", "x;", "é", "\xff", "a\n", "x[1]", "f(", "\"a\"", "% x", "x ", " x")
	}
	return names[m.Intn(len(names))]
}

func (m maker) text() string {
	texts := []string{"", "a", "a % b", "1.5", "\xff\x00\r"}
	if m.isOdd() {
		texts = []string{"\"", "a\"b", "a\nb", "\n", "a\", \"b"}
	}
	return texts[m.Intn(len(texts))]
}

func (m maker) exprs(depth int) []api.Expr {
	var out []api.Expr
	if depth > 0 {
		for range m.Intn(4) {
			out = append(out, m.expr(depth-1))
		}
	}
	return out
}

func (m maker) expr(depth int) api.Expr {
	e := api.Expr{Kind: 1 + m.Intn(9)}
	switch e.Kind {
	case api.EBool:
		e.N = m.pick(0, 1)
	case api.EInt:
		e.N = m.number()
	case api.ERange:
		e.N, e.M = m.number(), m.number()
	case api.ESet:
		for range m.Intn(4) {
			e.L = append(e.L, number(m.number()))
		}
	case api.EName:
		e.Name = m.name()
	case api.EAt:
		e.Name, e.N = m.name(), m.number()
	case api.EArray:
		e.L = m.exprs(depth)
	case api.ECall:
		e.Name, e.L = m.name(), m.exprs(depth)
	case api.EString:
		e.Name = m.text()
	}
	if m.isOdd() {
		m.spoilExpr(&e)
	}
	return e
}

// spoilExpr writes something into a field of an expression: in most kinds it can not stand there.
func (m maker) spoilExpr(e *api.Expr) {
	switch m.Intn(6) {
	case 0:
		e.Kind = int(m.pick(0, 10, -1, greatest, 1, 2, 3, 4, 5, 6, 7, 8, 9))
	case 1:
		e.N = m.pick(1, 2, -1)
	case 2:
		e.M = m.pick(1, -1, least)
	case 3:
		e.Name = m.name()
	case 4:
		e.L = append(e.L, m.expr(1))
	case 5:
		e.L = append(e.L, m.expr(0), deep(15))
	}
}

func (m maker) ranges() []api.Range {
	switch {
	case m.isOdd():
		wrong := wrongRanges()
		return wrong[m.Intn(len(wrong))]
	case m.Intn(3) == 0:
		return ranges(r(1, 1+m.pick(0, 1, 2)))
	}
	var out []api.Range
	from := m.pick(-5, 0, 1)
	for range m.Intn(4) {
		to := from + m.pick(0, 1, 3)
		out = append(out, r(from, to))
		from = to + m.pick(2, 3)
	}
	return out
}

// wrongRanges is ranges that are not right, and such of which a dom has too many values.
func wrongRanges() [][]api.Range {
	return [][]api.Range{
		ranges(r(2, 1)), ranges(r(1, 3), r(4, 6)), ranges(r(1, 3), r(3, 6)), ranges(r(5, 6), r(1, 2)), ranges(r(1, 2), r(1, 2)), ranges(r(1, 1), r(9, 8)),
		ranges(r(-maxBig-1, 0)), ranges(r(0, maxBig+1)), ranges(r(1, 2), r(4, greatest)), ranges(r(least, greatest)), ranges(r(greatest, least)), ranges(r(0, greatest), r(least, 7)),
		ranges(r(1, 1000), r(2000, 2000)), ranges(r(-maxBig, 0), r(2, maxBig)), comb(1001), comb(api.MaxRanges + 1), {{}, {}},
	}
}

// comb is n ranges of one value each.
func comb(n int) []api.Range {
	var out []api.Range
	for i := range int64(n) {
		out = append(out, r(2*i, 2*i))
	}
	return out
}

func (m maker) kind() api.Type {
	t := api.Type{Var: m.Intn(2) == 0, Array: m.Intn(3) == 0, Kind: 1 + m.Intn(3)}
	if t.Array {
		t.Size = m.pick(0, 1, 2, 1000)
	}
	if t.Kind != api.YBool && m.Intn(2) == 0 {
		t.Full, t.Dom = true, m.ranges()
	}
	if !m.isOdd() {
		return t
	}
	switch m.Intn(4) {
	case 0:
		t.Kind = int(m.pick(0, 4, -1, 1, 2, 3, greatest))
	case 1:
		t.Size = m.pick(1001, -1, greatest, 5)
	case 2:
		t.Full = !t.Full
	case 3:
		t.Dom = m.ranges()
	}
	return t
}

func (m maker) decl() api.Decl {
	d := api.Decl{Type: m.kind(), Name: m.name(), Anns: m.exprs(3), Has: m.Intn(2) == 0}
	if d.Has || m.isOdd() {
		d.Value = m.expr(3)
	}
	return d
}

func (m maker) program() api.Program {
	p := api.Program{Anns: m.exprs(3), Goal: m.Intn(3)}
	for range m.Intn(4) {
		p.Decls = append(p.Decls, m.decl())
	}
	for range m.Intn(4) {
		p.Cons = append(p.Cons, api.Item{Name: m.name(), Args: m.exprs(3), Anns: m.exprs(2)})
	}
	if m.isOdd() {
		p.Goal = int(m.pick(-1, 3, greatest))
	}
	if p.Goal != api.Satisfy || m.isOdd() {
		p.Of = m.expr(2)
	}
	return p
}

// anyRightText is a text of a program.
func anyRightText(t *testing.T, random *rand.Rand) string {
	t.Helper()
	s, e := parse.Print(maker{random, 0}.program())
	if e != api.OK {
		t.Fatal("Print", e)
	}
	return s
}

// P16.4, P16.5, P7: programs are read again as they were written, with anything between the tokens.
func TestAsItWasWritten(t *testing.T) {
	random := rand.New(rand.NewSource(7))
	gaps := []string{" ", "\n", "\t", "\r", "%\n", "% \" ;\n", " % a\n\n"}
	for range 3000 {
		p := maker{random, 0}.program()
		s, e := parse.Print(p)
		if e != api.OK || parse.Right(p) != api.OK {
			t.Fatal("Print", p, e)
		}
		if got := read(t, s); !parse.Same(got, p) {
			t.Fatalf("Parse(%q) = %v; want %v", s, got, p)
		}
		tokens, _, _ := lex.Scan(s)
		spread := ""
		for _, x := range tokens {
			spread += gaps[random.Intn(len(gaps))] + x.Text
		}
		if got := read(t, spread); !parse.Same(got, p) {
			t.Fatalf("Parse(%q) = %v; want %v", spread, got, p)
		}
	}
}

// P1, P16.1, P16.4, P16.6: of any text an error at a place of it, or a program that is read again as it is.
func FuzzParse(f *testing.F) {
	for _, s := range []string{
		everything, "", "solve satisfy;", "solve satisfy", "var float: x; solve satisfy;", "predicate p(); solve satisfy;", "array [1..1001] of int: a; solve satisfy;", "var 0..1000001: x; solve satisfy;",
		"var {3,1,2}: x; constraint f([[[[[[[[[[[[[[[[[[1]]]]]]]]]]]]]]]]]]); solve minimize x;", "var set of 3..1: s; solve :: \"a\" maximize s[-0];",
	} {
		f.Add(s)
	}
	f.Fuzz(func(t *testing.T, s string) {
		p, e, at := parse.Parse(s)
		if e != api.OK {
			if !isZero(p) || at < 0 || at > len(s) {
				t.Errorf("Parse(%q) = %v, %d, %d", s, p, e, at)
			}
			return
		}
		if at != 0 || len(p.Decls) > api.MaxVars || len(p.Cons) > api.MaxCons {
			t.Errorf("Parse(%q): at %d, %d and %d", s, at, len(p.Decls), len(p.Cons))
		}
		text, e := parse.Print(p)
		if e != parse.Right(p) {
			t.Errorf("Print and Right of %q: %d", s, e)
		}
		if e != api.OK {
			// All that is longer than it was read are blanks, a dom's values and names: only of long texts it is too long.
			if len(s) < api.MaxText/20 {
				t.Errorf("Print of %q: %d", s, e)
			}
			return
		}
		if again, e, _ := parse.Parse(text); e != api.OK || !parse.Same(p, again) {
			t.Errorf("Parse(%q) = %v, %d; want %v", text, again, e, p)
		}
	})
}
