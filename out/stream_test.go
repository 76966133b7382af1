package out_test

import (
	"strings"
	"testing"

	"jigsaw/api"
	"jigsaw/out"
)

// P21.4: how a run's text ends.
func TestStreamEnds(t *testing.T) {
	l := []api.Out{one("x", api.YInt, variable(0))}
	three := "x = 3;\n" + dashes
	for _, c := range []struct {
		s         string
		n, how    int
		noOutputs bool
	}{
		{s: equals, how: out.Complete},
		{s: unsat, how: out.Unsat},
		{s: unknown, how: out.Unknown},
		{s: "=====ERROR===== 160 0 13\n", how: out.Error},
		{s: "=====ERROR===== 0 -1 -999999999999999999\n", how: out.Error},
		{s: "=====ERROR===== 999999999999999999 -999999999999999999 0\n", how: out.Error},
		{s: three + equals, n: 1, how: out.Complete},
		{s: three + three + unknown, n: 2, how: out.Unknown},
		{s: three + "x = -4;\n" + dashes + equals, n: 2, how: out.Complete},
		{s: equals, how: out.Complete, noOutputs: true},
		{s: dashes + equals, n: 1, how: out.Complete, noOutputs: true},
		{s: dashes + dashes + dashes + unknown, n: 3, how: out.Unknown, noOutputs: true},
		{s: unsat, how: out.Unsat, noOutputs: true},
	} {
		outs := l
		if c.noOutputs {
			outs = nil
		}
		if blocks, how, e, at := out.Stream(c.s, outs); e != api.OK || at != 0 || how != c.how || len(blocks) != c.n {
			t.Error(c.s, blocks, how, e, at)
		}
	}
}

// P21.4: where a run's text is at fault. What is at fault is marked by |.
func TestStreamFaults(t *testing.T) {
	l := []api.Out{one("xy", api.YInt, variable(0)), one("b", api.YBool, variable(1))}
	block := "xy = 3;\nb = true;\n" + dashes
	for _, s := range []string{
		"|", "|\n", "|x", "|x = 3;\n", "|b = true;\n", "| xy", "|XY = 3;\n", "xy|", "xy|z = 3;\n", "xy|=", "xy = |03;\n", "xy = 3;\n|xy = 3;\n", "xy = 3;\nb = t|", "xy = 3;\nb = true;\n---|===", "|----------\n", "|-",
		"|=", "|=========\n", "|==========", "|===========\n", "|==========\r\n", "|== =======\n", "|=====UNSATISFIABLE====\n", "|=====unknown=====\n", "|=====UNKNOWN=====", "|=====UNSATISFIABLE===== \n",
		"|=====ERROR=====\n", "|=====ERROR===== \n", "|=====ERROR===== 1 2\n", "|=====ERROR===== 1 2 \n", "|=====ERROR===== 1 2 3 4\n", "|=====ERROR===== 1  2 3\n", "|=====ERROR===== 1 2 3 \n", "|=====ERROR=====  1 2 3\n", "|=====ERROR===== 1 2 3", "|=====ERROR===== 01 2 3\n", "|=====ERROR===== 1 -0 3\n", "|=====ERROR===== 1 2 +3\n", "|=====ERROR===== 1 2 x\n", "|=====ERROR===== 1 2 -\n", "|=====ERROR===== 1 2 --3\n", "|=====ERROR===== 1 2 1000000000000000000\n", "|=====ERROR===== -1000000000000000000 2 1\n", "|=====ERROR===== 1\t2 3\n",
		equals + "|" + equals, equals + "|\n", unsat + "|x", unknown + "|" + block, "=====ERROR===== 1 2 3\n|x", equals + "|\x00",
		block + "|", block + "|\n", block + "|x", block + "xy|", block + "xy = |-;\n", block + "|" + unsat, block + "|=====ERROR===== 1 2 3\n", block + block + "|" + unsat, block + "|" + unsat + "x", block + equals + "|" + equals, block + equals + "|" + block, block + "|b = true;\n", block + "|==", block + "|----------\n",
	} {
		at := strings.Index(s, "|")
		text := s[:at] + s[at+1:]
		if blocks, how, e, got := out.Stream(text, l); e != api.ErrOut || got != at || how != 0 || blocks != nil {
			t.Errorf("Stream(%q): %v, %d, %d, %d, not %d", text, blocks, how, e, got, at)
		}
	}
	for _, s := range []string{"|", "-|", "---------|", "---------|\n", "----------|", "----------|-\n", "----------|=\n", "----------\n|", "----------\n-|=", "----------\n|=", "----------\n|" + unsat, "|x = 3;\n", "----------\n|x", "----------\n==========\n|-"} {
		at := strings.Index(s, "|")
		text := s[:at] + s[at+1:]
		if blocks, how, e, got := out.Stream(text, nil); e != api.ErrOut || got != at || how != 0 || blocks != nil {
			t.Errorf("Stream(%q) of no outputs: %v, %d, %d, %d, not %d", text, blocks, how, e, got, at)
		}
	}
}

// P21.4: how long a run's text may be.
func TestStreamSize(t *testing.T) {
	n := (mostText - len(unknown)) / len(dashes)
	s := strings.Repeat(dashes, n) + unknown
	if blocks, how, e, at := out.Stream(s, nil); e != api.OK || how != out.Unknown || len(blocks) != n || at != 0 {
		t.Error(len(blocks), how, e, at)
	}
	s = strings.Repeat("-", mostText)
	if blocks, how, e, at := out.Stream(s, nil); e != api.ErrOut || how != 0 || blocks != nil || at != 10 {
		t.Error(len(blocks), how, e, at)
	}
	if blocks, how, e, at := out.Stream(s+"-", nil); e != api.ErrSize || how != 0 || blocks != nil || at != 0 {
		t.Error(len(blocks), how, e, at)
	}
}

// P21.5, P7: a run's text of blocks and a last line is read as these. P21.4: whatever is changed in it is told where the chapter says.
func TestStreamDrawn(t *testing.T) {
	g := newGame(4)
	faults := 0
	for range 10000 {
		l, v := g.outs()
		var want [][][]api.Val
		s := ""
		for range g.IntN(4) {
			for _, o := range l {
				for _, x := range o.L {
					if x.Var >= 0 {
						v[x.Var] = g.value(o.Kind)
					}
				}
			}
			values, _ := out.Values(l, v)
			want = append(want, values)
			s += block(t, l, v)
		}
		how := 1 + g.IntN(4)
		if len(want) > 0 {
			how = []int{out.Complete, out.Unknown}[g.IntN(2)]
		}
		s += out.Status(how, api.Errno(g.IntN(300)-100), g.IntN(30)-10, g.IntN(30)-10)
		if blocks, got, e, at := out.Stream(s, l); e != api.OK || got != how || at != 0 || told(blocks) != told(want) {
			t.Fatal("Stream", s, told(blocks), got, e, at)
		}
		bad := g.spoilt(s)
		blocks, got, e, at := out.Stream(bad, l)
		model, how, place := modelStream(bad, l)
		wantErr := api.OK
		if how == 0 {
			wantErr = api.ErrOut
			faults++
		}
		if e != wantErr || got != how || at != place || told(blocks) != told(model) || how == 0 && blocks != nil {
			t.Fatalf("Stream(%q): %v, %d, %d, %d, not %d, %d", bad, blocks, got, e, at, how, place)
		}
	}
	if faults < 5000 {
		t.Error("too few faults", faults)
	}
}

// P1: whatever is handed in, each call ends and answers.
func TestAnything(t *testing.T) {
	g := newGame(1)
	numbers := []int64{least, -maxBig - 1, -maxBig, -2, -1, 0, 1, 2, 3, 4, maxBig, maxBig + 1, greatest}
	n := func() int64 { return numbers[g.IntN(len(numbers))] }
	some := func() []int64 { return []int64{n(), n(), n()}[:g.IntN(4)] }
	val := func() api.Val { return api.Val{Set: g.IntN(2) == 0, N: n(), S: some()} }
	names := []string{"", "x", "y", "x y", "\xff", "0"}
	for range 20000 {
		var l []api.Out
		for range g.IntN(3) {
			o := api.Out{Name: names[g.IntN(len(names))], Kind: int(n()), One: g.IntN(2) == 0}
			for range g.IntN(3) {
				o.Dims = append(o.Dims, r(n(), n()))
			}
			for range g.IntN(3) {
				o.L = append(o.L, api.Term{Var: int(n()), C: val()})
			}
			l = append(l, o)
		}
		v := []api.Val{val(), val()}[:g.IntN(3)]
		out.Value(val(), int(n()))
		values, e := out.Values(l, v)
		s, f := out.Block(l, v)
		if e != f || e != api.OK && (values != nil || s != "") || e == api.OK && s == "" {
			t.Fatal("Values, Block", l, v, values, e, s, f)
		}
		if right := out.Right(l); right != api.OK && right != e {
			t.Fatal("Right", l, right, e)
		}
		text := g.spoilt(s + "x = 3;\n" + dashes)
		if all, e, at := out.Read(text, l); e != api.OK && all != nil || at < 0 || at > len(text) {
			t.Fatal("Read", text, l, all, e, at)
		}
		if blocks, how, e, at := out.Stream(text, l); e != api.OK && (blocks != nil || how != 0) || at < 0 || at > len(text) {
			t.Fatal("Stream", text, l, blocks, how, e, at)
		}
	}
}

// Readers at any bytes: they end, and agree with the model.
func FuzzStream(f *testing.F) {
	l, _ := example()
	f.Add(exampleText+equals, 5)
	f.Add(unsat, 0)
	f.Add("x = 3;\nb = true;\ns = {1,3};\n"+dashes+unknown, 3)
	f.Fuzz(func(t *testing.T, s string, n int) {
		l := l[:min(max(n, 0), len(l))]
		blocks, how, e, at := out.Stream(s, l)
		model, want, place := modelStream(s, l)
		if how != want || at != place || told(blocks) != told(model) || (e == api.OK) != (want != 0) {
			t.Errorf("Stream(%q): %v, %d, %d, %d, not %d, %d", s, blocks, how, e, at, want, place)
		}
	})
}
