package out_test

import (
	"fmt"
	"math"
	"math/rand/v2"
	"testing"

	"jigsaw/api"
	"jigsaw/out"
)

const (
	least    = math.MinInt64
	greatest = math.MaxInt64
	maxBig   = int64(api.Big)
	mostText = 16 * api.MaxText
	dashes   = "----------\n"
	equals   = "==========\n"
	unsat    = "=====UNSATISFIABLE=====\n"
	unknown  = "=====UNKNOWN=====\n"
)

func r(lo, hi int64) api.Range { return api.Range{Lo: lo, Hi: hi} }

func num(n int64) api.Val { return api.Val{N: n} }

func set(l ...int64) api.Val { return api.Val{Set: true, S: l} }

// run is the values from lo on, n of them.
func run(lo int64, n int) []int64 {
	var l []int64
	for i := range int64(n) {
		l = append(l, lo+i)
	}
	return l
}

func variable(n int) api.Term { return api.Term{Var: n} }

func constant(v api.Val) api.Term { return api.Term{Var: -1, C: v} }

func one(name string, kind int, t api.Term) api.Out {
	return api.Out{Name: name, Kind: kind, One: true, L: []api.Term{t}}
}

func array(name string, kind int, dims []api.Range, l ...api.Term) api.Out {
	return api.Out{Name: name, Kind: kind, Dims: dims, L: l}
}

func told(v any) string { return fmt.Sprint(v) }

// example is the outputs of the chapter's example, with a constant in the array, and an assignment.
func example() ([]api.Out, []api.Val) {
	return []api.Out{
			one("x", api.YInt, variable(0)),
			one("b", api.YBool, variable(1)),
			one("s", api.YSet, variable(2)),
			one("e", api.YSet, variable(3)),
			array("a", api.YInt, []api.Range{r(1, 2), r(0, 0)}, constant(num(-1)), variable(4)),
		},
		[]api.Val{num(3), num(1), set(1, 2, 3), set(), num(2)}
}

const exampleText = "x = 3;\nb = true;\ns = 1..3;\ne = {};\na = array2d(1..2, 0..0, [-1, 2]);\n" + dashes

// block is the text of values that can be printed.
func block(t testing.TB, l []api.Out, v []api.Val) string {
	t.Helper()
	s, e := out.Block(l, v)
	if e != api.OK {
		t.Fatal("Block", e, l, v)
	}
	return s
}

// game draws outputs and values.
type game struct{ *rand.Rand }

func newGame(seed uint64) game { return game{rand.New(rand.NewPCG(21, seed))} }

func (g game) value(kind int) api.Val {
	switch kind {
	case api.YBool:
		return num(g.Int64N(2))
	case api.YInt:
		return num([]int64{0, 1, -1, 7, 10, -23, maxBig, -maxBig, g.Int64N(2*maxBig+1) - maxBig}[g.IntN(9)])
	}
	v := set()
	for n := int64(-3); n < 12; n++ {
		if g.IntN(4) == 0 {
			v.S = append(v.S, n)
		}
	}
	if g.IntN(3) == 0 {
		v.S = run(g.Int64N(5)-2, g.IntN(6))
	}
	return v
}

// outs is outputs that can be, and an assignment of theirs.
func (g game) outs() ([]api.Out, []api.Val) {
	var l []api.Out
	var v []api.Val
	names := []string{"x", "xy", "y1", "_a", "array1d", "true", "Z"}
	g.Shuffle(len(names), func(i, j int) { names[i], names[j] = names[j], names[i] })
	for _, name := range names[:g.IntN(5)] {
		o := api.Out{Name: name, Kind: 1 + g.IntN(3), One: g.IntN(2) == 0}
		n := 1
		if !o.One {
			for range 1 + g.IntN(3) {
				lo := g.Int64N(5) - 2
				size := max(g.Int64N(5)-1, -1)
				o.Dims = append(o.Dims, r(lo, lo+size-1))
				n *= int(max(size, 0))
			}
		}
		for range n {
			x := g.value(o.Kind)
			if g.IntN(4) == 0 {
				o.L = append(o.L, constant(x))
				continue
			}
			o.L = append(o.L, variable(len(v)))
			v = append(v, x)
		}
		l = append(l, o)
	}
	return l, v
}

// spoilt is a text with something of it changed.
func (g game) spoilt(s string) string {
	const bytes = "0123456789-.{}, \n;=xytrufalsed()[]%"
	for range 1 + g.IntN(2) {
		at := g.IntN(len(s) + 1)
		c := bytes[g.IntN(len(bytes)):][:1]
		switch {
		case g.IntN(4) == 0:
			s = s[:at]
		case g.IntN(3) == 0:
			s = s[:at] + c + s[at:]
		case at == len(s):
			s += c
		case g.IntN(2) == 0:
			s = s[:at] + c + s[at+1:]
		default:
			s = s[:at] + s[at+1:]
		}
	}
	return s
}
