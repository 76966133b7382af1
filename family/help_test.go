package family_test

import (
	"fmt"
	"iter"
	"math/rand/v2"
	"slices"
	"strings"
	"testing"

	"jigsaw/api"
	"jigsaw/arith"
	"jigsaw/cons"
	"jigsaw/count"
	"jigsaw/dom"
	"jigsaw/kinds"
	"jigsaw/linear"
	"jigsaw/logic"
	"jigsaw/sched"
	"jigsaw/seq"
	"jigsaw/setcon"
	"jigsaw/sets"
)

// answer is what a model says of values.
type answer int

const (
	no answer = iota
	yes
	beyond // it can not be said
)

// face is a family's package, with a model of what its constraints mean.
type face struct {
	name  string
	holds func(api.Con, []api.Val) (bool, api.Errno)
	prune func(api.Con, []api.Dom) ([]api.Dom, int, api.Errno)
	model func(api.Con, []api.Val) answer
}

func faces() []face {
	return []face{
		{"linear", linear.Holds, linear.Prune, linearModel},
		{"arith", arith.Holds, arith.Prune, arithModel},
		{"logic", logic.Holds, logic.Prune, logicModel},
		{"setcon", setcon.Holds, setcon.Prune, setconModel},
		{"count", count.Holds, count.Prune, countModel},
		{"seq", seq.Holds, seq.Prune, seqModel},
		{"sched", sched.Holds, sched.Prune, schedModel},
	}
}

// names is the constraints of a family.
func names(f face) iter.Seq[string] {
	return func(yield func(string) bool) {
		for name := range cons.Names() {
			if cons.Family(name) == f.name && !yield(name) {
				return
			}
		}
	}
}

// means is what the document says of values that can be: the model's answer, but that a truth that is none makes nothing hold.
func (f face) means(c api.Con, v []api.Val) answer {
	for i, part := range strings.Split(cons.Form(c.Name), ",") {
		if !strings.HasSuffix(part, "B") {
			continue
		}
		for _, t := range c.Args[i].L {
			if n := number(t, v); n != 0 && n != 1 {
				return no
			}
		}
	}
	return f.model(c, v)
}

func number(t api.Term, v []api.Val) int64 {
	if t.Var < 0 {
		return t.C.N
	}
	return v[t.Var].N
}

func elements(t api.Term, v []api.Val) []int64 {
	if t.Var < 0 {
		return t.C.S
	}
	return v[t.Var].S
}

func r(lo, hi int64) api.Range { return api.Range{Lo: lo, Hi: hi} }

// num is the domain of a whole number with these ranges.
func num(l ...api.Range) api.Dom { return api.Dom{R: l} }

func set(lo, up []int64, least, most int) api.Dom {
	return api.Dom{Set: true, Lo: lo, Up: up, Least: least, Most: most}
}

func list(l ...int64) []int64 { return l }

// values is all values of a domain that can be.
func values(d api.Dom) []api.Val {
	var out []api.Val
	if d.Set {
		for l := range sets.Each(d) {
			out = append(out, api.Val{Set: true, S: l})
		}
		return out
	}
	for n := range dom.Each(d.R) {
		out = append(out, api.Val{N: n})
	}
	return out
}

// assignments is all values of these variables within d; the others have the zero value of their kind.
func assignments(d []api.Dom, vars []int) iter.Seq[[]api.Val] {
	v := make([]api.Val, len(d))
	for n := range d {
		v[n].Set = d[n].Set
	}
	return func(yield func([]api.Val) bool) {
		var from func(at int) bool
		from = func(at int) bool {
			if at == len(vars) {
				return yield(slices.Clone(v))
			}
			for _, x := range values(d[vars[at]]) {
				v[vars[at]] = x
				if !from(at + 1) {
					return false
				}
			}
			return true
		}
		from(0)
	}
}

// sameDom holds domains against each other, field by field.
func sameDom(a, b api.Dom) bool {
	return a.Set == b.Set && slices.Equal(a.R, b.R) && slices.Equal(a.Lo, b.Lo) && slices.Equal(a.Up, b.Up) && a.Least == b.Least && a.Most == b.Most
}

func sameDoms(a, b []api.Dom) bool { return slices.EqualFunc(a, b, sameDom) }

func copyDoms(d []api.Dom) []api.Dom {
	out := make([]api.Dom, len(d))
	for n := range d {
		out[n] = kinds.Copy(d[n])
	}
	return out
}

// spoil writes into all lists of domains, and appends to them.
func spoil(d []api.Dom) {
	for n, x := range d {
		for i := range x.R {
			x.R[i] = r(-77, -78)
		}
		_ = append(x.R, r(7, 8))
		for _, l := range [][]int64{x.Lo, x.Up} {
			for i := range l {
				l[i] = -77
			}
			_ = append(l, 78)
		}
		d[n] = api.Dom{Least: 77}
	}
	_ = append(d, api.Dom{Most: 78})
}

// hull is the smallest domain that has these values.
func hull(l []api.Val) api.Dom {
	if len(l) == 0 || !l[0].Set {
		var numbers []int64
		for _, v := range l {
			numbers = append(numbers, v.N)
		}
		out, _ := dom.Of(numbers...)
		return api.Dom{R: out}
	}
	out := api.Dom{Set: true, Least: api.MaxElems + 1}
	for e := int64(-10); e <= 10; e++ {
		some, all := false, true
		for _, v := range l {
			in := slices.Contains(v.S, e)
			some, all = some || in, all && in
		}
		if some {
			out.Up = append(out.Up, e)
		}
		if all {
			out.Lo = append(out.Lo, e)
		}
	}
	for _, v := range l {
		out.Least, out.Most = min(out.Least, len(v.S)), max(out.Most, len(v.S))
	}
	return out
}

// game draws constraints and domains: variables 0 to 3 are whole numbers, 4 to 6 are sets.
type game struct{ *rand.Rand }

const gameVars = 7

func newGame(seed uint64) game { return game{rand.New(rand.NewPCG(seed, 1))} }

// gameKinds is which variables are sets.
func gameKinds() []bool { return []bool{false, false, false, false, true, true, true} }

// anyNumber is a number: mostly a small one, now and then one whose powers go beyond.
func (g game) anyNumber() int64 {
	if g.IntN(6) == 0 {
		return []int64{10, 20, -20, 63, 64, 1000}[g.IntN(6)]
	}
	return g.Int64N(8) - 3
}

func (g game) anySet() []int64 {
	var out []int64
	for e := int64(1); e <= 3; e++ {
		if g.IntN(2) == 0 {
			out = append(out, e)
		}
	}
	return out
}

// term is a term that may stand at a letter.
func (g game) term(letter string) api.Term {
	if strings.Contains("IBS", letter) && g.IntN(4) > 0 {
		if letter == "S" {
			return cons.Var(4 + g.IntN(3))
		}
		return cons.Var(g.IntN(4))
	}
	switch letter {
	case "b", "B":
		return cons.Int(g.Int64N(2))
	case "s", "S":
		return cons.Set(g.anySet()...)
	}
	return cons.Int(g.anyNumber())
}

// con is a constraint of that name that can be. Its arrays have as many terms, or, now and then, each another number of them.
func (g game) con(name string) api.Con {
	for {
		c := api.Con{Name: name}
		size, alike := g.IntN(5), g.IntN(3) > 0
		for _, part := range strings.Split(cons.Form(name), ",") {
			letter, array := strings.CutPrefix(part, "a")
			if !array {
				c.Args = append(c.Args, cons.One(g.term(letter)))
				continue
			}
			if !alike {
				size = g.IntN(5)
			}
			c.Args = append(c.Args, g.array(letter, size))
		}
		switch {
		case name == "fzn_table_int":
			c.Args[1] = g.array("i", len(c.Args[0].L)*g.IntN(6))
		case name == "fzn_regular":
			g.automaton(c)
		}
		if cons.Right(c, gameKinds()) == api.OK {
			return c
		}
	}
}

func (g game) array(letter string, size int) api.Arg {
	var l []api.Term
	for range size {
		l = append(l, g.term(letter))
	}
	return cons.List(l...)
}

// automaton gives fzn_regular states and letters, and a table of them.
func (g game) automaton(c api.Con) {
	states, letters := 1+g.Int64N(3), 1+g.Int64N(4)
	var table []api.Term
	for range states * letters {
		table = append(table, cons.Int(g.Int64N(states+1)))
	}
	c.Args[1], c.Args[2] = cons.One(cons.Int(states)), cons.One(cons.Int(letters))
	c.Args[3], c.Args[4] = cons.List(table...), cons.One(cons.Int(1+g.Int64N(states)))
}

// doms is domains that can be: often of one value, now and then of none.
func (g game) doms() []api.Dom {
	out := make([]api.Dom, gameVars)
	for n, isSet := range gameKinds() {
		if isSet {
			out[n] = g.setDom()
			continue
		}
		var l []int64
		switch g.IntN(4) {
		case 0:
			l = list(g.anyNumber())
		case 1:
			l = list(0, 1)[g.IntN(2):]
		default:
			for range g.IntN(6) {
				l = append(l, g.anyNumber())
			}
		}
		out[n].R, _ = dom.Of(l...)
	}
	return out
}

func (g game) setDom() api.Dom {
	if g.IntN(30) == 0 {
		return set(nil, nil, 1, 0)
	}
	up := g.anySet()
	lo := sets.Meet(up, g.anySet())
	least := len(lo) + g.IntN(len(up)-len(lo)+1)
	return set(lo, up, least, least+g.IntN(len(up)-least+1))
}

// told is a constraint and domains as text.
func told(c api.Con, d []api.Dom) string {
	text := cons.Text(c)
	if len(text) > 200 {
		text = text[:200] + ".."
	}
	for _, n := range cons.Vars(c) {
		text += fmt.Sprintf("; x%d %s", n, tellDom(d[n]))
	}
	return text
}

func tellDom(d api.Dom) string {
	if d.Set {
		return fmt.Sprint(d.Lo, d.Up, d.Least, d.Most)
	}
	return dom.Text(d.R)
}

// parsed is the constraint of a text that can be read.
func parsed(t *testing.T, s string) api.Con {
	t.Helper()
	c, e := cons.Parse(s)
	if e != api.OK {
		t.Fatal("Parse", s, e)
	}
	return c
}
