package cons_test

import (
	"fmt"
	"math"
	"math/rand"
	"slices"
	"strconv"
	"strings"
	"testing"

	"jigsaw/api"
	"jigsaw/cons"
	"jigsaw/sets"
)

// P5.4: how constraints are written.
func TestText(t *testing.T) {
	for _, c := range []struct {
		c    api.Con
		want string
	}{
		{api.Con{}, "()"},
		{api.Con{Name: "int_le"}, "int_le()"},
		{api.Con{Name: "any name, (", Args: []api.Arg{cons.List()}}, "any name, (([])"},
		{api.Con{Name: "int_le", Args: []api.Arg{cons.One(cons.Var(0)), cons.One(cons.Int(-7))}}, "int_le(x0, -7)"},
		{api.Con{Name: "int_lin_le", Args: []api.Arg{cons.List(cons.Int(2), cons.Int(-1)), cons.List(cons.Var(0), cons.Var(3)), cons.One(cons.Int(5))}}, "int_lin_le([2, -1], [x0, x3], 5)"},
		{api.Con{Name: "array_set_element", Args: []api.Arg{cons.One(cons.Var(10)), cons.List(cons.Set(), cons.Set(-1, 2, 30)), cons.One(cons.Set(4))}}, "array_set_element(x10, [{}, {-1,2,30}], {4})"},
		{api.Con{Name: "bool_clause", Args: []api.Arg{cons.List(), cons.List(cons.Var(1))}}, "bool_clause([], [x1])"},
		{api.Con{Args: []api.Arg{{}}}, "()"},
		{api.Con{Args: []api.Arg{{L: []api.Term{}}, {}}}, "(, )"},
		{api.Con{Name: "int_le", Args: []api.Arg{cons.One(cons.Var(0)), {}, cons.One(cons.Int(1))}}, "int_le(x0, , 1)"},
		{api.Con{Name: "int_le", Args: []api.Arg{{L: []api.Term{cons.Int(1), cons.Var(2)}}, {L: []api.Term{cons.Set(1, 2), cons.Int(3), cons.Set()}}}}, "int_le(1, x2, {1,2}, 3, {})"},
		{api.Con{Name: "int_le", Args: []api.Arg{cons.List(), {}, cons.List(cons.Int(4)), {L: []api.Term{cons.Int(5), cons.Int(6)}}, cons.List(cons.Int(7), cons.Int(8))}}, "int_le([], , [4], 5, 6, [7, 8])"},
		{api.Con{Name: "x", Args: []api.Arg{cons.One(cons.Int(least)), cons.One(cons.Int(greatest)), cons.One(cons.Var(math.MaxInt))}}, "x(-9223372036854775808, 9223372036854775807, x9223372036854775807)"},
		{api.Con{Name: "x", Args: []api.Arg{cons.One(api.Term{Var: 4, C: api.Val{Set: true, N: 2, S: []int64{1}}})}}, "x(x4)"},
		{api.Con{Name: "x", Args: []api.Arg{cons.One(api.Term{Var: -1, C: api.Val{Set: true, N: 2, S: []int64{1}}})}}, "x({1})"},
		{api.Con{Name: "x", Args: []api.Arg{cons.One(api.Term{Var: -1, C: api.Val{N: 2, S: []int64{1}}})}}, "x(2)"},
	} {
		if got := cons.Text(c.c); got != c.want {
			t.Errorf("Text: %s; want %s", got, c.want)
		}
	}
}

// P5.4: sets are written as sets.Text writes them, those that are none as {}.
func TestTextOfSets(t *testing.T) {
	all := append(noSets(), nil, []int64{}, []int64{0}, []int64{-maxBig, maxBig}, run(64, -32), run(63, 5), []int64{-3, -1, 7})
	for _, l := range all {
		want := "set_eq(" + sets.Text(l) + ", [" + sets.Text(l) + ", 1])"
		c := api.Con{Name: "set_eq", Args: []api.Arg{cons.One(cons.Set(l...)), cons.List(cons.Set(l...), cons.Int(1))}}
		if got := cons.Text(c); got != want {
			t.Errorf("Text: %s; want %s", got, want)
		}
		if got := cons.Right(c, nil); got != api.ErrCon {
			t.Error("Right", got)
		}
		c.Args[1] = cons.One(cons.Set())
		if got, want := cons.Right(c, nil) == api.OK, sets.Set(l); got != want {
			t.Error("a set is one as package sets has it", l, got)
		}
	}
	for _, l := range noSets() {
		if got := cons.Text(api.Con{Args: []api.Arg{cons.One(cons.Set(l...))}}); got != "({})" {
			t.Error("Text of no set", got)
		}
	}
}

// P5.5, P7: a constraint that can be is read again as it was written.
func TestParseOfText(t *testing.T) {
	for name, form := range listed() {
		for _, size := range []int{1, 2, 5, 300} {
			c := sample(name, form, size)
			s := cons.Text(c)
			if got, e := cons.Parse(s); e != api.OK || !cons.Same(got, c) {
				t.Error("Parse", s, got, e)
			}
		}
		c := sample(name, form, 2)
		for i, a := range c.Args {
			if a.Array {
				c.Args[i].L = nil
			}
		}
		if got, e := cons.Parse(cons.Text(c)); e != api.OK || !cons.Same(got, c) {
			t.Error("Parse", cons.Text(c), got, e)
		}
	}
}

// P5.4: what is read has the name of a constraint; whether it can be is another thing.
func TestParseOfWhatCanNotBe(t *testing.T) {
	term := func(l ...api.Term) []api.Arg {
		var out []api.Arg
		for _, x := range l {
			out = append(out, cons.One(x))
		}
		return out
	}
	for s, args := range map[string][]api.Arg{
		"int_le()":                            nil,
		"int_le(1)":                           term(cons.Int(1)),
		"int_le([])":                          {cons.List()},
		"int_le([], [], [])":                  {cons.List(), cons.List(), cons.List()},
		"int_le([x0], {1,2}, [{}, 3, x1], 4)": {cons.List(cons.Var(0)), cons.One(cons.Set(1, 2)), cons.List(cons.Set(), cons.Int(3), cons.Var(1)), cons.One(cons.Int(4))},
		"int_le(1000000000, -1000000000)":     term(cons.Int(maxCoef), cons.Int(-maxCoef)),
		"int_le(x1000000000, x0)":             term(cons.Var(api.Coef), cons.Var(0)),
		"int_le({-1000000,1000000}, {})":      term(cons.Set(-maxBig, maxBig), cons.Set()),
		"fzn_regular(0, 0)":                   term(cons.Int(0), cons.Int(0)),
		"int_le(, )":                          {{}, {}},
		"int_le(, x0)":                        {{}, cons.One(cons.Var(0))},
		"int_le(x0, 1, )":                     {cons.One(cons.Var(0)), cons.One(cons.Int(1)), {}},
		"int_le(x0, , 1)":                     {cons.One(cons.Var(0)), {}, cons.One(cons.Int(1))},
		"int_le([], , [4], 5, 6, [7, 8], , )": {cons.List(), {}, cons.List(cons.Int(4)), cons.One(cons.Int(5)), cons.One(cons.Int(6)), cons.List(cons.Int(7), cons.Int(8)), {}, {}},
	} {
		got, e := cons.Parse(s)
		if want := (api.Con{Name: s[:strings.Index(s, "(")], Args: args}); e != api.OK || !cons.Same(got, want) {
			t.Error("Parse", s, got, e)
		}
	}
}

// none asks for an error and no constraint beside it.
func none(t *testing.T, s string, want api.Errno) {
	t.Helper()
	c, e := cons.Parse(s)
	if e != want || c.Name != "" || c.Args != nil {
		t.Errorf("Parse(%q) = %v, %d; want %d", s[:min(len(s), 60)], c, e, want)
	}
}

// P5.4: what is not what Text writes is no text of a constraint.
func TestParseWrong(t *testing.T) {
	for _, s := range []string{
		"", "(", ")", "()", "int_le", "int_le(", "int_le)", "int_le())", "int_le(()", "int_le()()", " int_le()", "int_le ()", "int_le( )", "int_le() ", "int_le()\n",
		"foo()", "foo(x0)", "Int_le(x0, 1)", "int_l(x0, 1)", "int_le_(x0, 1)", "(x0, 1)", "int_le int_lt(x0, 1)", "int_le\x00(1)",
		"int_le(x0,1)", "int_le(x0,  1)", "int_le(x0 , 1)", "int_le( x0, 1)", "int_le(x0, 1 )", "int_le(x0, 1,)", "int_le(,x0)", "int_le(,)", "int_le(,, )", "int_le( , )", "int_le(,  )", "int_le(x0, ], 1)", "int_le([, 1)", "int_le([, ], 1)", "int_le([x0, , x1])", "int_le([x0, []])", "int_le([x0, [])", "int_le(x0;1)", "int_le(x0\t, 1)",
		"int_le(01)", "int_le(-0)", "int_le(+1)", "int_le(--1)", "int_le(-)", "int_le(1_0)", "int_le(0x1)", "int_le(1e3)", "int_le(1.0)", "int_le(- 1)", "int_le(１)", "int_le(1)1", "int_le(true)",
		"int_le(x)", "int_le(x-1)", "int_le(x-0)", "int_le(x+1)", "int_le(x01)", "int_le(X0)", "int_le(y0)", "int_le(xx0)", "int_le(x 0)", "int_le(x0x)",
		"int_le(1000000001)", "int_le(-1000000001)", "int_le(x1000000001)", "int_le(x9223372036854775808)", "int_le(9223372036854775807)", "int_le(-9223372036854775808)", "int_le(99999999999999999999999999)",
		"int_le([)", "int_le(])", "int_le([x0)", "int_le(x0])", "int_le([[x0]])", "int_le([x0]])", "int_le([[x0])", "int_le([[]])", "int_le([x0, [x1]])", "int_le([x0, [x1])", "int_le([x0], x1])", "int_le([x0 ])", "int_le([ x0])", "int_le([ ])", "int_le([x0,x1])", "int_le([x0, ])", "int_le([, x0])", "int_le([,])", "int_le([, ])", "int_le([][])", "int_le([x0][x1])", "int_le([x0]x1)", "int_le([], ])",
		"int_le({)", "int_le(})", "int_le({1)", "int_le(1})", "int_le({{1}})", "int_le({1}})", "int_le({{1})", "int_le({{}})", "int_le({}})", "int_le({1, 2})", "int_le({1,,2})", "int_le({,})", "int_le({1,})", "int_le({,1})", "int_le({ })", "int_le({1 })", "int_le({x0})", "int_le({01})", "int_le({-0})", "int_le({+1})", "int_le({1}{2})", "int_le({1};{2})", "int_le({[1]})",
		"int_le({1,1})", "int_le({2,1})", "int_le({1000001})", "int_le({-1000001})", "int_le({1000000000})", "int_le(1..2)", "int_le({1..2})",
		"int_le(\xff)", "int_le(x\x00)", "int_le(é)", "\xff(1)",
	} {
		none(t, s, api.ErrCon)
	}
	for _, l := range noSets() {
		var parts []string
		for _, v := range l {
			parts = append(parts, strconv.FormatInt(v, 10))
		}
		none(t, "set_eq({"+strings.Join(parts, ",")+"})", api.ErrCon)
	}
}

// P5.4: one text, each of its bytes changed, left out, or doubled: either it is what Text writes, or ErrCon.
func TestParseOfNearlyRight(t *testing.T) {
	const s = "fzn_regular([x0, 12], 2, -1, [], x34, {-5,6})"
	for i := range len(s) {
		for _, with := range []string{"", s[i:i+1] + s[i:i+1], "0", "1", "-", "x", ",", ", ", " ", "[", "]", "{", "}", "(", ")", "\x00"} {
			other := s[:i] + with + s[i+1:]
			c, e := cons.Parse(other)
			if e == api.OK && cons.Text(c) != other || e != api.OK && (e != api.ErrCon || c.Name != "" || c.Args != nil) {
				t.Errorf("Parse(%q) = %v, %d", other, c, e)
			}
		}
	}
}

// P5.4: a text of just MaxText bytes, and of one more, whatever it is.
func TestParseOfLongTexts(t *testing.T) {
	const head, tail = "int_le([", "10])"
	n := (api.MaxText - len(head) - len(tail)) / 3
	s := head + strings.Repeat("1, ", n) + tail
	s = strings.Replace(s, "10]", strings.Repeat("1", 2+api.MaxText-len(s))+"]", 1)
	if len(s) != api.MaxText {
		t.Fatal(len(s))
	}
	c, e := cons.Parse(s)
	if e != api.OK || len(c.Args) != 1 || len(c.Args[0].L) != n+1 || cons.Text(c) != s {
		t.Error("Parse of MaxText bytes", e)
	}
	if e := cons.Right(c, nil); e != api.ErrCon {
		t.Error("Right of it", e)
	}
	none(t, s[:len(s)-1]+" )", api.ErrSize)
	none(t, strings.Replace(s, "1, ", "11, ", 1), api.ErrSize)
	for _, x := range []string{"\xff", "(", "[", "1, "} {
		none(t, strings.Repeat(x, api.MaxText+1), api.ErrSize)
		none(t, strings.Repeat(x, api.MaxText)[:api.MaxText], api.ErrCon)
	}
}

// P5.5: what can be, but whose text is too long, is not read.
func TestParseOfTooMuch(t *testing.T) {
	c := sample("array_set_element", "I,as,S", api.MaxArray)
	for i := range c.Args[1].L {
		c.Args[1].L[i] = cons.Set(run(64, 100)...)
	}
	isRight(t, c, api.OK)
	none(t, cons.Text(c), api.ErrSize)
}

// anyTerm is a term of any kind, most of them such as can be nowhere.
func anyTerm(r *rand.Rand) api.Term {
	pick := func(l ...int64) int64 { return l[r.Intn(len(l))] }
	var s []int64
	for range r.Intn(4) {
		s = append(s, pick(-5, 0, 1, 2, 3, maxBig, maxBig+1, least))
	}
	return api.Term{
		Var: int(pick(-1, -1, -1, 0, 1, 2, -2, maxCoef, maxCoef+1, greatest)),
		C:   api.Val{Set: r.Intn(2) == 0, N: pick(0, 0, 1, -7, maxBig, -maxCoef, maxCoef, maxCoef+1, greatest), S: s},
	}
}

// anyCon is a constraint of any kind, most of them such as can not be.
func anyCon(r *rand.Rand, names []string) api.Con {
	c := api.Con{Name: names[r.Intn(len(names))]}
	for range r.Intn(5) {
		a := api.Arg{Array: r.Intn(2) == 0}
		for range r.Intn(4) {
			a.L = append(a.L, anyTerm(r))
		}
		c.Args = append(c.Args, a)
	}
	return c
}

// inBounds: may Parse read it, by its variables and numbers?
func inBounds(c api.Con) bool {
	for _, a := range c.Args {
		for _, x := range a.L {
			number := x.Var == -1 && !x.C.Set
			if x.Var < -1 || x.Var > api.Coef || number && (x.C.N < -maxCoef || x.C.N > maxCoef) {
				return false
			}
		}
	}
	return true
}

// P1, P5.4: of any constraint Text writes what is read as one that is written so; no call panics.
func TestAnyConstraints(t *testing.T) {
	r := rand.New(rand.NewSource(5))
	names := slices.Collect(cons.Names())
	for range 30000 {
		c := anyCon(r, append(names, "", "foo", "int_le(x0"))
		before := fmt.Sprint(c)
		s := cons.Text(c)
		got, e := cons.Parse(s)
		if want := cons.Form(c.Name) != "" && inBounds(c); (e == api.OK) != want || e != api.OK && e != api.ErrCon || e == api.OK && cons.Text(got) != s {
			t.Fatal("Parse", s, got, e)
		}
		if cons.Right(c, kinds()) == api.OK && !cons.Same(got, c) {
			t.Error("not as it was written", s, got)
		}
		if !cons.Same(c, cons.Copy(c)) || !slices.IsSorted(cons.Vars(c)) || fmt.Sprint(c) != before {
			t.Error("Copy, Vars", c)
		}
	}
}

// P5.4: what Parse answers is new each time.
func TestParsedIsNew(t *testing.T) {
	const s = "array_set_element(x0, [{1,2}, {1,2}], x1)"
	first := parsed(t, s)
	spoil(first)
	second := parsed(t, s)
	second.Args[1].L[0].C.S[0] = 9
	if got := cons.Text(second); got != "array_set_element(x0, [{}, {1,2}], x1)" {
		t.Error("lists share memory", got)
	}
	if got := cons.Text(parsed(t, s)); got != s {
		t.Error("Parse", got)
	}
}

// P1, P5.4, P5.5: of any text Parse answers an error, or a constraint that is written as that text.
func FuzzParse(f *testing.F) {
	for _, s := range []string{"int_le(x0, 1)", "int_lin_le([2, -1], [x0, x3], 5)", "set_eq({}, {1,2})", "bool_clause([], [])", "int_le()", "int_le(, 1)", "int_le([x0)"} {
		f.Add(s)
	}
	f.Fuzz(func(t *testing.T, s string) {
		c, e := cons.Parse(s)
		switch e {
		case api.OK:
			if cons.Text(c) != s || cons.Form(c.Name) == "" || !inBounds(c) {
				t.Errorf("Parse(%q) = %v", s, c)
			}
		case api.ErrCon:
			if c.Name != "" || c.Args != nil || len(s) > api.MaxText {
				t.Errorf("Parse(%q) = %v, ErrCon", s, c)
			}
		default:
			if e != api.ErrSize || c.Name != "" || c.Args != nil || len(s) <= api.MaxText {
				t.Errorf("Parse(%q) = %v, %d", s, c, e)
			}
		}
	})
}
