package prune_test

import (
	"fmt"
	"iter"
	"math/rand/v2"
	"slices"
	"strings"
	"testing"

	"jigsaw/api"
	"jigsaw/cons"
	"jigsaw/dom"
	"jigsaw/kinds"
	"jigsaw/sets"
	"jigsaw/store"
)

const maxBig = int64(api.Big)

func r(lo, hi int64) api.Range { return api.Range{Lo: lo, Hi: hi} }

// num is the domain of a whole number with these ranges.
func num(l ...api.Range) api.Dom { return api.Dom{R: l} }

func set(lo, up []int64, least, most int) api.Dom {
	return api.Dom{Set: true, Lo: lo, Up: up, Least: least, Most: most}
}

func list(l ...int64) []int64 { return l }

// parsed is the constraints of texts that can be read.
func parsed(t *testing.T, texts ...string) []api.Con {
	t.Helper()
	var out []api.Con
	for _, s := range texts {
		c, e := cons.Parse(s)
		if e != api.OK {
			t.Fatal("Parse", s, e)
		}
		out = append(out, c)
	}
	return out
}

// doms is domains of whole numbers as text, with a blank between.
func doms(t *testing.T, s string) []api.Dom {
	t.Helper()
	var out []api.Dom
	for _, text := range strings.Fields(s) {
		l, e := dom.Parse(text)
		if e != api.OK {
			t.Fatal("Parse", text, e)
		}
		out = append(out, num(l...))
	}
	return out
}

// stored is a store of domains that can be.
func stored(t *testing.T, d []api.Dom) *store.Store {
	t.Helper()
	s, e := store.New(d)
	if e != api.OK {
		t.Fatal("store.New", e)
	}
	return s
}

func told(d []api.Dom) string {
	var out []string
	for _, x := range d {
		text := dom.Text(x.R)
		if x.Set {
			text = fmt.Sprint(x.Lo, x.Up, x.Least, x.Most)
		}
		out = append(out, text)
	}
	return strings.Join(out, " ")
}

// toldCons is constraints as text.
func toldCons(l []api.Con) string {
	var out []string
	for _, c := range l {
		out = append(out, cons.Text(c))
	}
	return strings.Join(out, ", ")
}

// sameDom holds domains against each other, field by field.
func sameDom(a, b api.Dom) bool {
	return a.Set == b.Set && slices.Equal(a.R, b.R) && slices.Equal(a.Lo, b.Lo) && slices.Equal(a.Up, b.Up) && a.Least == b.Least && a.Most == b.Most
}

func sameDoms(a, b []api.Dom) bool { return slices.EqualFunc(a, b, sameDom) }

func copyDoms(d []api.Dom) []api.Dom {
	out := make([]api.Dom, len(d))
	for n := range d {
		out[n] = kinds.Copy(d[n])
	}
	return out
}

// spoil writes into all lists of domains, and appends to them.
func spoil(d []api.Dom) {
	for n, x := range d {
		for i := range x.R {
			x.R[i] = r(-77, -78)
		}
		_ = append(x.R, r(7, 8))
		for _, l := range [][]int64{x.Lo, x.Up} {
			for i := range l {
				l[i] = -77
			}
			_ = append(l, 78)
		}
		d[n] = api.Dom{Least: 77}
	}
	_ = append(d, api.Dom{Most: 78})
}

// values is all values of a domain that can be.
func values(d api.Dom) []api.Val {
	var out []api.Val
	if d.Set {
		for l := range sets.Each(d) {
			out = append(out, api.Val{Set: true, S: l})
		}
		return out
	}
	for n := range dom.Each(d.R) {
		out = append(out, api.Val{N: n})
	}
	return out
}

// assignments is all values of these variables within domains, with the first one of each other variable.
func assignments(d []api.Dom, vars []int) iter.Seq[[]api.Val] {
	return func(yield func([]api.Val) bool) {
		v := make([]api.Val, len(d))
		var from func(at int) bool
		from = func(at int) bool {
			if at == len(d) {
				return yield(slices.Clone(v))
			}
			for _, x := range values(d[at]) {
				v[at] = x
				if !from(at + 1) {
					return false
				}
				if !slices.Contains(vars, at) {
					break
				}
			}
			return true
		}
		from(0)
	}
}

// inside: does an assignment lie within domains?
func inside(v []api.Val, d []api.Dom) bool {
	for n := range d {
		if !kinds.Has(d[n], v[n]) {
			return false
		}
	}
	return true
}

// game draws constraints of all families, and domains: variables 0 to 2 are whole numbers, 3 and 4 are sets.
type game struct {
	*rand.Rand
	names []string
}

func newGame(seed uint64) game {
	return game{rand.New(rand.NewPCG(14, seed)), slices.Collect(cons.Names())}
}

func gameKinds() []bool { return []bool{false, false, false, true, true} }

func (g game) set() []int64 {
	var out []int64
	for e := int64(1); e <= 3; e++ {
		if g.IntN(2) == 0 {
			out = append(out, e)
		}
	}
	return out
}

// term is a term that may stand at a letter of a form.
func (g game) term(letter string) api.Term {
	if strings.Contains("IBS", letter) && g.IntN(5) > 0 {
		if letter == "S" {
			return cons.Var(3 + g.IntN(2))
		}
		return cons.Var(g.IntN(3))
	}
	switch letter {
	case "b", "B":
		return cons.Int(g.Int64N(2))
	case "s", "S":
		return cons.Set(g.set()...)
	}
	return cons.Int(g.Int64N(6) - 1)
}

func (g game) array(letter string, size int) api.Arg {
	var l []api.Term
	for range size {
		l = append(l, g.term(letter))
	}
	return cons.List(l...)
}

// con is a constraint that can be; that of int_pow may go beyond.
func (g game) con() api.Con {
	name := g.names[g.IntN(len(g.names))]
	for {
		c := api.Con{Name: name}
		size, alike := g.IntN(4), g.IntN(3) > 0
		for _, part := range strings.Split(cons.Form(name), ",") {
			letter, array := strings.CutPrefix(part, "a")
			if !alike {
				size = g.IntN(4)
			}
			if array {
				c.Args = append(c.Args, g.array(letter, size))
			} else {
				c.Args = append(c.Args, cons.One(g.term(letter)))
			}
		}
		switch {
		case name == "fzn_table_int":
			c.Args[1] = g.array("i", len(c.Args[0].L)*g.IntN(6))
		case name == "fzn_regular":
			c.Args[1], c.Args[2], c.Args[4] = cons.One(cons.Int(1)), cons.One(cons.Int(2)), cons.One(cons.Int(1))
			c.Args[3] = cons.List(cons.Int(g.Int64N(2)), cons.Int(g.Int64N(2)))
		case name == "int_pow" && g.IntN(3) == 0:
			c.Args[0] = cons.One(cons.Int(1000000))
		}
		if cons.Right(c, gameKinds()) == api.OK {
			return c
		}
	}
}

func (g game) cons(n int) []api.Con {
	var out []api.Con
	for range n {
		out = append(out, g.con())
	}
	return out
}

// dom is a domain that can be, of a set or not; now and then it is empty, or (of a set) not tight.
func (g game) dom(isSet bool) api.Dom {
	if !isSet {
		var l []int64
		for range g.IntN(20) / 3 {
			l = append(l, g.Int64N(6)-1)
		}
		out, _ := dom.Of(l...)
		return num(out...)
	}
	if g.IntN(40) == 0 {
		return set(nil, nil, 1, 0)
	}
	up := g.set()
	lo := sets.Meet(up, g.set())
	least := len(lo) + g.IntN(len(up)-len(lo)+1)
	return set(lo, up, least, least+g.IntN(len(up)-least+1))
}

func (g game) doms() []api.Dom {
	var out []api.Dom
	for _, isSet := range gameKinds() {
		out = append(out, g.dom(isSet))
	}
	return out
}
