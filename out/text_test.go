package out_test

import (
	"strings"
	"testing"

	"jigsaw/api"
	"jigsaw/out"
)

// P21.1: values as text.
func TestValue(t *testing.T) {
	for _, c := range []struct {
		v    api.Val
		kind int
		want string
	}{
		{num(0), api.YBool, "false"},
		{num(1), api.YBool, "true"},
		{num(0), api.YInt, "0"},
		{num(1), api.YInt, "1"},
		{num(-7), api.YInt, "-7"},
		{num(maxBig), api.YInt, "1000000"},
		{num(-maxBig), api.YInt, "-1000000"},
		{set(), api.YSet, "{}"},
		{api.Val{Set: true, S: []int64{}}, api.YSet, "{}"},
		{set(5), api.YSet, "{5}"},
		{set(-5), api.YSet, "{-5}"},
		{set(1, 2), api.YSet, "1..2"},
		{set(-2, -1), api.YSet, "-2..-1"},
		{set(-1, 0, 1, 2), api.YSet, "-1..2"},
		{set(1, 3), api.YSet, "{1,3}"},
		{set(-3, -1, 0, 1), api.YSet, "{-3,-1,0,1}"},
		{set(1, 2, 4), api.YSet, "{1,2,4}"},
		{set(-maxBig, maxBig), api.YSet, "{-1000000,1000000}"},
		{set(run(1, 64)...), api.YSet, "1..64"},
	} {
		if s, e := out.Value(c.v, c.kind); s != c.want || e != api.OK {
			t.Error(c.v, c.kind, s, e)
		}
	}
}

// P21.1: what is no value of a kind.
func TestNoValue(t *testing.T) {
	for _, c := range []struct {
		v    api.Val
		kind int
	}{
		{num(1), 0}, {num(1), 4}, {num(1), -1}, {num(1), greatest}, {set(), 0},
		{num(2), api.YBool}, {num(-1), api.YBool}, {set(), api.YBool}, {api.Val{N: 1, S: []int64{1}}, api.YBool},
		{num(maxBig + 1), api.YInt}, {num(-maxBig - 1), api.YInt}, {num(least), api.YInt}, {num(greatest), api.YInt},
		{set(1), api.YInt}, {api.Val{Set: true, N: 1}, api.YInt}, {api.Val{N: 1, S: []int64{0}}, api.YInt},
		{num(0), api.YSet}, {api.Val{S: []int64{1}}, api.YSet}, {api.Val{Set: true, N: 1, S: []int64{1}}, api.YSet},
		{set(2, 1), api.YSet}, {set(1, 1), api.YSet}, {set(maxBig + 1), api.YSet}, {set(-maxBig - 1), api.YSet},
		{set(run(1, 65)...), api.YSet}, {set(least, greatest), api.YSet},
	} {
		if s, e := out.Value(c.v, c.kind); s != "" || e != api.ErrArg {
			t.Error(c.v, c.kind, s, e)
		}
		if c.kind < api.YBool || c.kind > api.YSet {
			continue
		}
		l := []api.Out{one("x", c.kind, variable(0))}
		if v, e := out.Values(l, []api.Val{c.v}); v != nil || e != api.ErrArg {
			t.Error("Values", c.v, c.kind, v, e)
		}
		if s, e := out.Block(l, []api.Val{c.v}); s != "" || e != api.ErrArg {
			t.Error("Block", c.v, c.kind, s, e)
		}
	}
}

// P21.1: the chapter's example, and blocks of nothing.
func TestBlock(t *testing.T) {
	l, v := example()
	if s := block(t, l, v); s != exampleText {
		t.Error(s)
	}
	if s := block(t, nil, nil); s != dashes {
		t.Error("of no outputs", s)
	}
	none := []api.Out{array("a", api.YSet, []api.Range{r(1, 0)}), array("b", api.YInt, []api.Range{r(3, -2), r(-1, 1)})}
	if s := block(t, none, nil); s != "a = array1d(1..0, []);\nb = array2d(3..-2, -1..1, []);\n"+dashes {
		t.Error("of no terms", s)
	}
	some := []api.Out{array("s", api.YSet, []api.Range{r(-1, 1)}, variable(0), constant(set(4)), variable(0)), array("t", api.YBool, []api.Range{r(0, 1)}, variable(1), constant(num(0)))}
	if s := block(t, some, []api.Val{set(1, 3), num(1)}); s != "s = array1d(-1..1, [{1,3}, {4}, {1,3}]);\nt = array1d(0..1, [true, false]);\n"+dashes {
		t.Error("of sets", s)
	}
	deep := array("d", api.YInt, make([]api.Range, api.MaxNest), variable(0))
	if s := block(t, []api.Out{deep}, []api.Val{num(5)}); s != "d = array16d("+strings.Repeat("0..0, ", 16)+"[5]);\n"+dashes {
		t.Error("of all dimensions", s)
	}
}

// P21.1: the values of the outputs' terms; a variable that there is not.
func TestValues(t *testing.T) {
	l, v := example()
	all, e := out.Values(l, v)
	if want := "[[{false 3 []}] [{false 1 []}] [{true 0 [1 2 3]}] [{true 0 []}] [{false -1 []} {false 2 []}]]"; e != api.OK || told(all) != want {
		t.Error(e, told(all))
	}
	if all, e := out.Values(l, v[:4]); e != api.ErrArg || all != nil {
		t.Error("a value is missing", e, all)
	}
	if all, e := out.Values(l, append(v, set(9, 8))); e != api.OK || len(all) != 5 {
		t.Error("a value more", e, all)
	}
	if all, e := out.Values([]api.Out{one("x", api.YInt, variable(greatest))}, v); e != api.ErrArg || all != nil {
		t.Error("far away", e, all)
	}
	if all, e := out.Values(nil, nil); e != api.OK || len(all) != 0 {
		t.Error("of nothing", e, all)
	}
}

// No list that is answered shares memory with another one, and none that is handed in is changed.
func TestMemory(t *testing.T) {
	c := set(7, 9)
	l := []api.Out{array("a", api.YSet, []api.Range{r(1, 4)}, variable(0), variable(0), constant(c), constant(c))}
	v := []api.Val{set(1, 3)}
	want := "[[{true 0 [1 3]} {true 0 [1 3]} {true 0 [7 9]} {true 0 [7 9]}]]"
	s := block(t, l, v)
	for i := range 4 {
		written, _ := out.Values(l, v)
		read, _, _ := out.Read(s, l)
		for _, all := range [][][]api.Val{written, read} {
			if told(all) != want {
				t.Fatal("something else is told", told(all))
			}
			all[0][i].S[0] = -5
			_ = append(all[0][i].S[:1], 4)
			for k, x := range all[0] {
				if k != i && x.S[0] == -5 {
					t.Error("two lists share memory", i, k)
				}
			}
		}
	}
	if told(v) != "[{true 0 [1 3]}]" || told(c) != "{true 0 [7 9]}" {
		t.Error("what was handed in is changed", v, c)
	}
}

// P21.2: a run's last line.
func TestStatus(t *testing.T) {
	if out.Complete != 1 || out.Unsat != 2 || out.Unknown != 3 || out.Error != 4 {
		t.Error("constants")
	}
	for _, c := range []struct {
		how      int
		why      api.Errno
		part, at int
		want     string
	}{
		{out.Complete, 0, 0, 0, equals},
		{out.Complete, 7, 8, 9, equals},
		{out.Unsat, 7, 8, 9, unsat},
		{out.Unknown, 7, 8, 9, unknown},
		{0, 7, 8, 9, unknown},
		{5, 7, 8, 9, unknown},
		{-1, 7, 8, 9, unknown},
		{out.Error, 160, 0, 13, "=====ERROR===== 160 0 13\n"},
		{out.Error, api.OK, 0, 0, "=====ERROR===== 0 0 0\n"},
		{out.Error, -1, -20, 65536, "=====ERROR===== -1 -20 65536\n"},
		{out.Error, greatest, least, greatest, "=====ERROR===== 9223372036854775807 -9223372036854775808 9223372036854775807\n"},
	} {
		if s := out.Status(c.how, c.why, c.part, c.at); s != c.want {
			t.Error(c, s)
		}
	}
}
