package search_test

import (
	"fmt"
	"iter"
	"math"
	"math/rand/v2"
	"slices"
	"strings"
	"testing"

	"jigsaw/api"
	"jigsaw/cons"
	"jigsaw/dom"
	"jigsaw/kinds"
	"jigsaw/post"
	"jigsaw/prune"
	"jigsaw/search"
	"jigsaw/sets"
)

const (
	least    = math.MinInt64
	greatest = math.MaxInt64
	maxBig   = int64(api.Big)
)

func r(lo, hi int64) api.Range { return api.Range{Lo: lo, Hi: hi} }

func num(l ...api.Range) api.Dom { return api.Dom{R: l} }

func set(lo, up []int64, least, most int) api.Dom {
	return api.Dom{Set: true, Lo: lo, Up: up, Least: least, Most: most}
}

func list(l ...int64) []int64 { return l }

// comb is n ranges of three values each, every fourth number between them missing.
func comb(n int) api.Dom {
	var out api.Dom
	for i := range int64(n) {
		out.R = append(out.R, r(4*i, 4*i+2))
	}
	return out
}

// problem is one of these domains and constraints, all solutions of which are asked.
func problem(t testing.TB, d []api.Dom, texts ...string) api.Problem {
	t.Helper()
	p := api.Problem{Vars: d}
	for _, s := range texts {
		c, e := cons.Parse(s)
		if e != api.OK {
			t.Fatal("Parse", s, e)
		}
		p.Cons = append(p.Cons, c)
	}
	if e := post.Right(p); e != api.OK {
		t.Fatal("not right", e, texts)
	}
	return p
}

// many is n domains alike.
func many(n int, d api.Dom) []api.Dom {
	var out []api.Dom
	for range n {
		out = append(out, kinds.Copy(d))
	}
	return out
}

// queens is n queens on a board, none of which takes another.
func queens(t testing.TB, n int) api.Problem {
	var texts []string
	for i := range n {
		for j := i + 1; j < n; j++ {
			for _, k := range []int{0, j - i, i - j} {
				texts = append(texts, fmt.Sprintf("int_lin_ne([1, -1], [x%d, x%d], %d)", i, j, k))
			}
		}
	}
	return problem(t, many(n, num(r(1, int64(n)))), texts...)
}

// solved is what Solve answers of what can be.
func solved(t testing.TB, p api.Problem, o api.Options) api.Result {
	t.Helper()
	res, e := search.Solve(p, o)
	if e != api.OK {
		t.Fatal("Solve", e, o)
	}
	return res
}

func told(v []api.Val) string {
	var out []string
	for _, x := range v {
		if x.Set {
			out = append(out, sets.Text(x.S))
		} else {
			out = append(out, fmt.Sprint(x.N))
		}
	}
	return strings.Join(out, " ")
}

// toldAll is solutions as text, in their order.
func toldAll(l [][]api.Val) []string {
	var out []string
	for _, v := range l {
		out = append(out, told(v))
	}
	return out
}

// sorted is texts in another list, rising.
func sorted(l []string) []string {
	l = slices.Clone(l)
	slices.Sort(l)
	return l
}

func toldProblem(p api.Problem) string {
	out := ""
	for _, d := range p.Vars {
		if d.Set {
			out += fmt.Sprint(d.Lo, d.Up, d.Least, d.Most, " ")
		} else {
			out += dom.Text(d.R) + " "
		}
	}
	for _, c := range p.Cons {
		out += "; " + cons.Text(c)
	}
	return out + fmt.Sprint("; ", p.Goal, " of ", p.Of, " ", p.Phases)
}

// values is all values of a domain that can be.
func values(d api.Dom) []api.Val {
	var out []api.Val
	if d.Set {
		for l := range sets.Each(d) {
			out = append(out, api.Val{Set: true, S: l})
		}
		return out
	}
	for n := range dom.Each(d.R) {
		out = append(out, api.Val{N: n})
	}
	return out
}

// assignments is all of them within domains; the values of the variables rise, the first one's slowest.
func assignments(d []api.Dom) iter.Seq[[]api.Val] {
	all := make([][]api.Val, len(d))
	for i, x := range d {
		all[i] = values(x)
	}
	return func(yield func([]api.Val) bool) {
		v := make([]api.Val, len(d))
		var from func(at int) bool
		from = func(at int) bool {
			if at == len(d) {
				return yield(slices.Clone(v))
			}
			for _, x := range all[at] {
				v[at] = x
				if !from(at + 1) {
					return false
				}
			}
			return true
		}
		from(0)
	}
}

// truth is what is so of a problem, found by trying all assignments.
type truth struct {
	sols   []string // as text, by the order of the values
	best   int64    // of the goal, if there are solutions
	beyond bool     // can it not be said of some constraint and assignment?
}

func truthOf(p api.Problem) truth {
	var out truth
	for v := range assignments(p.Vars) {
		for _, c := range p.Cons {
			_, e := prune.Holds(c, v)
			out.beyond = out.beyond || e != api.OK
		}
		if ok, _ := post.Solves(p, v); !ok {
			continue
		}
		if n, e := post.Value(p, v); e == api.OK && (len(out.sols) == 0 || post.Better(p.Goal, n, out.best)) {
			out.best = n
		}
		out.sols = append(out.sols, told(v))
	}
	return out
}

// game draws problems and options.
type game struct {
	*rand.Rand
	names []string
}

func newGame(seed uint64) game {
	return game{rand.New(rand.NewPCG(20, seed)), slices.Collect(cons.Names())}
}

// variables 0 to 2 are whole numbers, 3 is a set.
func gameKinds() []bool { return []bool{false, false, false, true} }

func (g game) set() []int64 {
	var out []int64
	for e := int64(1); e <= 3; e++ {
		if g.IntN(2) == 0 {
			out = append(out, e)
		}
	}
	return out
}

// term is a term that may stand at a letter of a form.
func (g game) term(letter string) api.Term {
	if strings.Contains("IBS", letter) && g.IntN(5) > 0 {
		if letter == "S" {
			return cons.Var(3)
		}
		return cons.Var(g.IntN(3))
	}
	switch letter {
	case "b", "B":
		return cons.Int(g.Int64N(2))
	case "s", "S":
		return cons.Set(g.set()...)
	}
	return cons.Int(g.Int64N(6) - 1)
}

func (g game) array(letter string, size int) api.Arg {
	var l []api.Term
	for range size {
		l = append(l, g.term(letter))
	}
	return cons.List(l...)
}

// con is a constraint that can be; that of int_pow may go beyond.
func (g game) con() api.Con {
	name := g.names[g.IntN(len(g.names))]
	if g.IntN(25) == 0 {
		name = "int_pow"
	}
	for {
		c := api.Con{Name: name}
		size, alike := g.IntN(4), g.IntN(3) > 0
		for _, part := range strings.Split(cons.Form(name), ",") {
			letter, array := strings.CutPrefix(part, "a")
			if !alike {
				size = g.IntN(4)
			}
			if array {
				c.Args = append(c.Args, g.array(letter, size))
			} else {
				c.Args = append(c.Args, cons.One(g.term(letter)))
			}
		}
		switch {
		case name == "fzn_table_int":
			c.Args[1] = g.array("i", len(c.Args[0].L)*g.IntN(6))
		case name == "fzn_regular":
			c.Args[1], c.Args[2], c.Args[4] = cons.One(cons.Int(1)), cons.One(cons.Int(2)), cons.One(cons.Int(1))
			c.Args[3] = cons.List(cons.Int(g.Int64N(2)), cons.Int(g.Int64N(2)))
		case name == "int_pow" && g.IntN(3) == 0:
			c.Args[0] = cons.One(cons.Int(1000000))
		}
		if cons.Right(c, gameKinds()) == api.OK {
			return c
		}
	}
}

// dom is a domain that can be, of a set or not; now and then it is empty, or (of a set) not tight.
func (g game) dom(isSet bool) api.Dom {
	if !isSet {
		var l []int64
		for range g.IntN(20) / 3 {
			l = append(l, g.Int64N(6)-1)
		}
		out, _ := dom.Of(l...)
		return num(out...)
	}
	up := g.set()
	lo := sets.Meet(up, g.set())
	from := len(lo) + g.IntN(len(up)-len(lo)+1)
	return set(lo, up, from, from+g.IntN(len(up)-from+1))
}

// problem is one with at most that many assignments.
func (g game) problem(most int64) api.Problem {
	for {
		p := api.Problem{Goal: g.IntN(3)}
		size := int64(1)
		for _, isSet := range gameKinds() {
			d := g.dom(isSet)
			p.Vars = append(p.Vars, d)
			size *= kinds.Size(d)
		}
		if size > most || size == 0 && g.IntN(8) > 0 {
			continue
		}
		for range g.IntN(4) {
			p.Cons = append(p.Cons, g.con())
		}
		if p.Goal != api.Satisfy {
			p.Of = g.IntN(3)
		}
		for range g.IntN(3) {
			f := api.Phase{Select: g.IntN(6), Value: g.IntN(6)}
			for range g.IntN(5) {
				f.Vars = append(f.Vars, g.IntN(4))
			}
			p.Phases = append(p.Phases, f)
		}
		return p
	}
}

// options is some that can be, with a budget that is seldom too small.
func (g game) options() api.Options {
	o := api.Options{All: g.IntN(2) == 0, Nodes: 1 + g.Int64N(3000), Restart: g.IntN(4), Nogoods: g.IntN(2) == 0}
	if g.IntN(4) == 0 {
		o.Nodes = 1 + g.Int64N(12)
	}
	if o.Restart != api.RNone {
		o.Scale = 1 + g.Int64N(9)
	}
	if g.IntN(2) == 0 {
		o.Lns = 1 + g.IntN(100)
	}
	for range g.IntN(20) {
		o.Draws = append(o.Draws, g.IntN(200)-100)
	}
	return o
}
