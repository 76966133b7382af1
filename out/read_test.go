package out_test

import (
	"strings"
	"testing"

	"jigsaw/api"
	"jigsaw/out"
)

// P21.3: a block is read as what was written.
func TestReadExample(t *testing.T) {
	l, v := example()
	want, _ := out.Values(l, v)
	if all, e, at := out.Read(exampleText, l); e != api.OK || at != 0 || told(all) != told(want) {
		t.Error(told(all), e, at)
	}
	if all, e, at := out.Read(dashes, nil); e != api.OK || at != 0 || len(all) != 0 {
		t.Error("of no outputs", all, e, at)
	}
}

// fails holds that Read refuses a text at a place.
func fails(t *testing.T, s string, at int, l ...api.Out) {
	t.Helper()
	if all, e, got := out.Read(s, l); e != api.ErrOut || got != at || all != nil {
		t.Errorf("Read(%.60q): %v, %d, %d, not %d", s, all, e, got, at)
	}
}

// P21.3: where whole numbers are at fault. What is at fault is marked by |.
func TestReadNumbers(t *testing.T) {
	x := one("x", api.YInt, variable(0))
	for _, s := range []string{
		"|", "|y = 3;", "|=", "|\nx = 3;", "| x = 3;", "|----------\n", "x|y = 3;", "x|=3;", "x |", "x |3", "x =|3;", "x =|",
		"x = |03;\n", "x = |", "x = |;", "x = |-", "x = |--1;", "x = |-0;", "x = |00;", "x = |1-;", "x = |1-2;", "x = |+1;", "x = | 1;", "x = |true;", "x = |{1};",
		"x = |1000001;", "x = |-1000001;", "x = |99999999999999999999999;", "x = |" + strings.Repeat("0", 100000),
		"x = 3|", "x = 3| ;", "x = 3|.;", "x = 3|..4;", "x = 3|e2;", "x = 3|,", "x = 3;|", "x = 3;| \n", "x = 3;|\r\n", "x = 3;\n|", "x = 3;\n|\n", "x = 3;\n|x = 3;\n", "x = 3;\n|==========\n",
		"x = 3;\n---------|\n", "x = 3;\n---------|", "x = 3;\n----------|", "x = 3;\n----------|-\n", "x = 3;\n----------|\r\n",
		"x = 3;\n----------\n|\n", "x = 3;\n----------\n|x = 3;\n----------\n", "x = 3;\n----------\n|==========\n", "x = 3;\n----------\n|\x00",
	} {
		at := strings.Index(s, "|")
		fails(t, s[:at]+s[at+1:], at, x)
	}
	for _, s := range []string{"0", "-1", "1000000", "-1000000", "10"} {
		if all, e, at := out.Read("x = "+s+";\n"+dashes, []api.Out{x}); e != api.OK || at != 0 || told(all) != "[[{false "+s+" []}]]" {
			t.Error(s, told(all), e, at)
		}
	}
}

// P21.3: where truths and sets are at fault.
func TestReadTruthsAndSets(t *testing.T) {
	b, s := one("x", api.YBool, variable(0)), one("x", api.YSet, variable(0))
	for _, c := range []struct {
		o api.Out
		s string
	}{
		{b, "x = |"}, {b, "x = |1;\n"}, {b, "x = |True;\n"}, {b, "x = t|"}, {b, "x = tru|"}, {b, "x = true|"}, {b, "x = true|e;\n"}, {b, "x = t|alse;\n"}, {b, "x = f|rue;\n"}, {b, "x = fals|"}, {b, "x = fals|;\n"}, {b, "x = false|"},
		{s, "x = |"}, {s, "x = |;"}, {s, "x = |{"}, {s, "x = |}"}, {s, "x = |{}}"}, {s, "x = |{{}"}, {s, "x = {}| "}, {s, "x = {}|"},
		{s, "x = |1"}, {s, "x = |1."}, {s, "x = |1.."}, {s, "x = |1..1;\n"}, {s, "x = |2..1;\n"}, {s, "x = |1...2;\n"}, {s, "x = |1..2..3;\n"}, {s, "x = |01..2;\n"}, {s, "x = |1..02;\n"}, {s, "x = |-0..1;\n"}, {s, "x = |{1..2};\n"}, {s, "x = |1..65;\n"}, {s, "x = |-1000001..-1000000;\n"}, {s, "x = |1000000..1000001;\n"}, {s, "x = |0..99999999999999999999;\n"}, {s, "x = |-9223372036854775808..9223372036854775807;\n"}, {s, "x = |9223372036854775806..9223372036854775807;\n"},
		{s, "x = |{1,2};\n"}, {s, "x = |{2,1};\n"}, {s, "x = |{1,1};\n"}, {s, "x = |{1,};\n"}, {s, "x = |{,1};\n"}, {s, "x = |{,};\n"}, {s, "x = |{1,03};\n"}, {s, "x = |{1,1000001};\n"}, {s, "x = |{1,3"}, {s, "x = |{1,"}, {s, "x = |1,3;\n"}, {s, "x = |{1, 3};\n"}, {s, "x = |{1 ,3};\n"}, {s, "x = |{1},\t"}, {s, "x = |{1},"}, {s, "x = {1}|, "}, {s, "x = |{1,3}{5};\n"},
	} {
		at := strings.Index(c.s, "|")
		fails(t, c.s[:at]+c.s[at+1:], at, c.o)
	}
	for _, c := range []struct {
		o       api.Out
		s, want string
	}{
		{b, "true", "[[{false 1 []}]]"}, {b, "false", "[[{false 0 []}]]"},
		{s, "{}", "[[{true 0 []}]]"}, {s, "{-3}", "[[{true 0 [-3]}]]"}, {s, "-2..0", "[[{true 0 [-2 -1 0]}]]"}, {s, "{1,3}", "[[{true 0 [1 3]}]]"}, {s, "{-1000000,1000000}", "[[{true 0 [-1000000 1000000]}]]"},
	} {
		if all, e, at := out.Read("x = "+c.s+";\n"+dashes, []api.Out{c.o}); e != api.OK || at != 0 || told(all) != c.want {
			t.Error(c.s, told(all), e, at)
		}
	}
}

// P21.3: where arrays and constants are at fault.
func TestReadArrays(t *testing.T) {
	dims := []api.Range{r(1, 2), r(0, 0)}
	a := array("a", api.YInt, dims, variable(0), constant(num(-2)))
	s := array("a", api.YSet, []api.Range{r(10, 11)}, constant(set(1, 3)), variable(0))
	b := array("a", api.YBool, []api.Range{r(1, 1)}, constant(num(1)))
	none := array("a", api.YInt, []api.Range{r(1, 0)})
	for _, c := range []struct {
		o api.Out
		s string
	}{
		{a, "a = |1"}, {a, "a = |[1, -2]"}, {a, "a = arr|"}, {a, "a = array|1d("}, {a, "a = array2d(|2..2, 0..0, [1, -2]);"}, {a, "a = array2d(1|2..2, 0..0, [1, -2]);"}, {a, "a = array2d(1.|"}, {a, "a = array2d(1..|3, 0..0"}, {a, "a = array2d(1..2,|0..0"}, {a, "a = array2d(1..2, 0..0|2"}, {a, "a = array2d(1..2, 0..0, |1"},
		{a, "a = array2d(1..2, 0..0, [|"}, {a, "a = array2d(1..2, 0..0, [|]);"}, {a, "a = array2d(1..2, 0..0, [1|]);"}, {a, "a = array2d(1..2, 0..0, [1,|-2]);"}, {a, "a = array2d(1..2, 0..0, [1, |-3]);"}, {a, "a = array2d(1..2, 0..0, [1, |-02]);"}, {a, "a = array2d(1..2, 0..0, [1, |-22]);"}, {a, "a = array2d(1..2, 0..0, [1, -2|, 3]);"}, {a, "a = array2d(1..2, 0..0, [1, -2]|;"}, {a, "a = array2d(1..2, 0..0, [1, -2])|\n"}, {a, "a = array2d(1..2, 0..0, [1, -2]);|"},
		{a, "a = array2d(1..2, 0..0, [|2000000, 5]);"},
		{s, "a = array1d(10..11, [|{1,4}, {}]);"}, {s, "a = array1d(10..11, [|1..3, {}]);"}, {s, "a = array1d(10..11, [|{1,3},{}]);"}, {s, "a = array1d(10..11, [{1,3}|  {}]);"}, {s, "a = array1d(10..11, [{1,3}, |5]);"},
		{b, "a = array1d(1..1, [|false]);"}, {b, "a = array1d(1..1, [f|rue]);"}, {b, "a = array1d(1..1, [true|, true]);"},
		{none, "a = array1d(1..0, [|1]);"}, {none, "a = array1d(1..0, [|"}, {none, "a = array1d(1..0, []|;"},
	} {
		at := strings.Index(c.s, "|")
		fails(t, c.s[:at]+c.s[at+1:], at, c.o)
	}
}

// P21.3: how long a text may be.
func TestReadSize(t *testing.T) {
	fails(t, strings.Repeat("-", mostText), 10)
	if all, e, at := out.Read(strings.Repeat("-", mostText+1), nil); e != api.ErrSize || at != 0 || all != nil {
		t.Error(all, e, at)
	}
	// a block that is as long as can be
	wide := strings.Repeat("x", mostText-len(" = 3;\n"+dashes))
	l := []api.Out{one(wide, api.YInt, variable(0))}
	s := block(t, l, []api.Val{num(3)})
	if all, e, at := out.Read(s, l); len(s) != mostText || e != api.OK || at != 0 || told(all) != "[[{false 3 []}]]" {
		t.Error(len(s), e, at)
	}
	s = block(t, l, []api.Val{num(13)})
	if all, e, at := out.Read(s, l); e != api.ErrSize || at != 0 || all != nil {
		t.Error(len(s), e, at)
	}
}

// P21.5, P7: Read(Block(l, v)) are Values(l, v). P21.3: whatever is changed in a block is told where the chapter says. P21.6: other values have another block.
func TestReadDrawn(t *testing.T) {
	g := newGame(3)
	faults := 0
	for range 20000 {
		l, v := g.outs()
		want, e := out.Values(l, v)
		if e != api.OK {
			t.Fatal("Values", e, l, v)
		}
		s := block(t, l, v)
		all, e, at := out.Read(s, l)
		if e != api.OK || at != 0 || told(all) != told(want) {
			t.Fatal("Read", s, told(all), e, at)
		}
		bad := g.spoilt(s)
		all, e, at = out.Read(bad, l)
		values, end, ok := modelBlock(bad, 0, l)
		if ok && end == len(bad) {
			if e != api.OK || at != 0 || told(all) != told(values) {
				t.Fatalf("Read(%q): %v, %d, %d", bad, all, e, at)
			}
			continue
		}
		faults++
		if e != api.ErrOut || at != end || all != nil {
			t.Fatalf("Read(%q): %v, %d, %d, not %d", bad, all, e, at, end)
		}
	}
	if faults < 10000 {
		t.Error("too few faults", faults)
	}
}

// P21.6: values that are not the same have blocks that are not the same.
func TestBlocksDiffer(t *testing.T) {
	g := newGame(6)
	for range 3000 {
		l, v := g.outs()
		texts := map[string]string{}
		for range 10 {
			values, _ := out.Values(l, v)
			s := block(t, l, v)
			if other, ok := texts[s]; ok && other != told(values) {
				t.Fatal("the same block", s, other, told(values))
			}
			texts[s] = told(values)
			for _, o := range l {
				for _, x := range o.L {
					if x.Var >= 0 && g.IntN(3) == 0 {
						v[x.Var] = g.value(o.Kind)
					}
				}
			}
		}
	}
}
