package sets_test

import (
	"slices"
	"strconv"
	"strings"
	"testing"

	"jigsaw/api"
	"jigsaw/sets"
)

// P4.1: what is a set, and what is not.
func TestSet(t *testing.T) {
	for _, l := range [][]int64{nil, {}, list(0), list(-maxBig), list(maxBig), list(-maxBig, 0, maxBig), list(1, 2, 9), run(api.MaxElems, -30)} {
		if !sets.Set(l) {
			t.Error("a set, but told not to be", l)
		}
	}
	for _, l := range wrongs() {
		if sets.Set(l) {
			t.Error("no set, but told to be", l)
		}
	}
}

// P4.1, P4.7: all pairs of small sets.
func TestAlgebra(t *testing.T) {
	whole := list(-maxBig, -1, 0, 7, maxBig)
	for _, a := range parts(whole) {
		for _, b := range parts(whole) {
			inA := func(v int64) bool { return slices.Contains(a, v) }
			inB := func(v int64) bool { return slices.Contains(b, v) }
			join := those(whole, func(v int64) bool { return inA(v) || inB(v) })
			meet := those(whole, func(v int64) bool { return inA(v) && inB(v) })
			alike(t, "Join", sets.Join(a, b), join)
			alike(t, "Meet", sets.Meet(a, b), meet)
			alike(t, "Less", sets.Less(a, b), those(whole, func(v int64) bool { return inA(v) && !inB(v) }))
			alike(t, "Sym", sets.Sym(a, b), those(whole, func(v int64) bool { return inA(v) != inB(v) }))
			alike(t, "Less of Join and Meet", sets.Less(join, meet), sets.Sym(a, b))
			if sets.Sub(a, b) != (len(meet) == len(a)) {
				t.Error("Sub", a, b)
			}
			for _, v := range append(slices.Clone(whole), least, 3, greatest) {
				if sets.In(v, a) != inA(v) {
					t.Error("In", v, a)
				}
			}
		}
	}
}

// P4.1: as many elements as there are, more than a set may have, too.
func TestManyElements(t *testing.T) {
	a, b := run(api.MaxElems, 0), run(api.MaxElems, 1000)
	alike(t, "Join", sets.Join(b, a), slices.Concat(a, b))
	alike(t, "Sym", sets.Sym(b, a), slices.Concat(a, b))
	alike(t, "Meet", sets.Meet(a, a), a)
	alike(t, "Less", sets.Less(a, b), a)
	alike(t, "Join of the same", sets.Join(a, a), a)
	alike(t, "Less of what is no set", sets.Less(sets.Join(a, b), a), nil)
	var even, odd []int64
	for i := range int64(api.MaxElems) {
		even, odd = append(even, 2*i), append(odd, 2*i+1)
	}
	alike(t, "Join of what is between each other", sets.Join(even, odd), run(2*api.MaxElems, 0))
}

// P4.1, P4.7: the order of sets.
func TestCmp(t *testing.T) {
	for _, c := range []struct {
		a, b []int64
		want int
	}{
		{nil, nil, 0}, {nil, list(0), -1}, {list(1, 3), list(1, 2, 9), 1}, {list(1), list(1, 2), -1}, {list(1, 2), list(1), 1},
		{list(-1), list(1), -1}, {list(2), list(1, 9), 1}, {list(1, 9), list(2), -1}, {list(-maxBig), list(maxBig), -1},
		{run(api.MaxElems, 0), run(api.MaxElems-1, 0), 1}, {run(api.MaxElems, 0), run(api.MaxElems, 0), 0},
	} {
		if got := sets.Cmp(c.a, c.b); got != c.want {
			t.Error("Cmp", c.a, c.b, got)
		}
	}
	all := parts(list(-3, 0, 1, 5))
	slices.SortFunc(all, sets.Cmp)
	want := "{} {-3} {-3,0} {-3,0,1} {-3,0,1,5} {-3,0,5} {-3,1} {-3,1,5} {-3,5} {0} {0,1} {0,1,5} {0,5} {1} {1,5} {5}"
	var got []string
	for i, a := range all {
		got = append(got, sets.Text(a))
		for j, b := range all {
			if c := sets.Cmp(a, b); c < 0 != (i < j) || c > 0 != (i > j) || c < -1 || c > 1 {
				t.Error("Cmp is no order", a, b, c)
			}
		}
	}
	if strings.Join(got, " ") != want {
		t.Error("the order of sets", got)
	}
}

// P4.1: lists that are no sets are the empty set.
func TestAlgebraOfWrongLists(t *testing.T) {
	some := list(0, 1, 2)
	for _, w := range wrongs() {
		kept := slices.Clone(w)
		alike(t, "Join", sets.Join(w, some), some)
		alike(t, "Join", sets.Join(some, w), some)
		alike(t, "Meet", sets.Meet(w, some), nil)
		alike(t, "Meet", sets.Meet(some, w), nil)
		alike(t, "Less", sets.Less(w, some), nil)
		alike(t, "Less", sets.Less(some, w), some)
		alike(t, "Sym", sets.Sym(w, some), some)
		alike(t, "Sym", sets.Sym(some, w), some)
		if sets.Cmp(w, nil) != 0 || sets.Cmp(w, some) != -1 || sets.Cmp(some, w) != 1 || sets.Cmp(w, w) != 0 {
			t.Error("Cmp", w)
		}
		if !sets.Sub(w, some) || !sets.Sub(w, nil) || sets.Sub(some, w) || !sets.Sub(nil, w) {
			t.Error("Sub", w)
		}
		for _, v := range append(slices.Clone(w), least, 0, greatest) {
			if sets.In(v, w) {
				t.Error("In", v, w)
			}
		}
		if sets.Text(w) != "{}" {
			t.Error("Text", w, sets.Text(w))
		}
		alike(t, "what was handed in", w, kept)
	}
}

// P4.1, P4.6, P7: a set as text, and back.
func TestText(t *testing.T) {
	for _, c := range []struct {
		l    []int64
		text string
	}{
		{nil, "{}"}, {list(0), "{0}"}, {list(-5, 0, 17), "{-5,0,17}"}, {list(-maxBig, maxBig), "{-1000000,1000000}"}, {list(1, 2, 3), "{1,2,3}"},
	} {
		if got := sets.Text(c.l); got != c.text {
			t.Error("Text", c.l, got)
		}
	}
	for _, l := range append(parts(list(-maxBig, -10, -1, 0, 1, 99, maxBig)), run(api.MaxElems, -maxBig), run(api.MaxElems, -20)) {
		got, e := sets.Parse(sets.Text(l))
		alike(t, "Parse of Text", got, l)
		if e != api.OK {
			t.Error("Parse of Text", l, e)
		}
	}
}

// wrongTexts are texts that Text does not write.
func wrongTexts() []string {
	out := []string{
		"", " ", "{", "}", "}{", "{{}", "{}}", "{{}}", "{1", "1}", "1", "1,2", "{1,1}", "{2,1}", "{01}", "{00}", "{+1}", "{-0}", "{-}", "{--1}",
		"{ }", "{1, 2}", "{1 }", " {1}", "{1} ", "{1}\n", "{,}", "{1,}", "{,1}", "{1,,2}", "{{1}}", "{1}{2}", "{1..2}", "1..2", "{1.0}", "{1e3}", "{0x1}", "{1_0}",
		"{1000001}", "{-1000001}", "{9223372036854775807}", "{9223372036854775808}", "{-9223372036854775809}", "[1]", "(1)", "{a}", "{\xff}", "{\x00}", "{１}", "{1}\x00",
		"{" + strings.Repeat("9", 400) + "}", strings.Repeat("{", api.MaxText), "{" + strings.Repeat("1,", 32767) + "}",
	}
	var many []string
	for i := range api.MaxElems + 1 {
		many = append(many, strconv.Itoa(i))
	}
	return append(out, "{"+strings.Join(many, ",")+"}")
}

// P4.1: texts that are none, and texts that are too long.
func TestParseWrong(t *testing.T) {
	for _, s := range wrongTexts() {
		if l, e := sets.Parse(s); l != nil || e != api.ErrDom {
			t.Errorf("Parse(%.60q): %v, %d", s, l, e)
		}
	}
	for _, s := range []string{strings.Repeat("1", api.MaxText+1), "{" + strings.Repeat("1,", 32768) + "}", "{}" + strings.Repeat(" ", api.MaxText)} {
		if l, e := sets.Parse(s); l != nil || e != api.ErrSize {
			t.Errorf("Parse of %d bytes: %v, %d", len(s), l, e)
		}
	}
	if l, e := sets.Parse("{}" + strings.Repeat(" ", api.MaxText-2)); l != nil || e != api.ErrDom {
		t.Error("Parse of MaxText bytes", l, e)
	}
}

// P4.1, P4.6: whatever is read is a set, and is written as it was.
func FuzzParse(f *testing.F) {
	for _, s := range wrongTexts() {
		f.Add(s)
	}
	for _, l := range parts(list(-maxBig, -1, 0, 12, maxBig)) {
		f.Add(sets.Text(l))
	}
	f.Fuzz(func(t *testing.T, s string) {
		l, e := sets.Parse(s)
		if e != api.OK && l != nil || e == api.OK && (!sets.Set(l) || sets.Text(l) != s) {
			t.Error(s, l, e)
		}
	})
}

// spoil writes into an answer, and behind it.
func spoil(l []int64) {
	more := append(l, 77)
	for i := range more {
		more[i] = 99
	}
	for i := range l {
		l[i] = 98
	}
}

// Rules 4 and 5: no answer shares memory with an argument, or with another answer.
func TestAnswersAreNew(t *testing.T) {
	a := append(make([]int64, 0, 20), 1, 2, 3)
	b := append(make([]int64, 0, 20), 2, 3, 4)
	for _, f := range []func(a, b []int64) []int64{sets.Join, sets.Meet, sets.Less, sets.Sym} {
		for _, other := range [][]int64{b, a, nil, list(7)} {
			want := slices.Clone(f(a, other))
			spoil(f(a, other))
			spoil(f(other, a))
			alike(t, "the same again", f(a, other), want)
			alike(t, "an argument", a, list(1, 2, 3))
			alike(t, "an argument", b, list(2, 3, 4))
			if a[:4][3] != 0 || b[:4][3] != 0 {
				t.Error("an answer grows into an argument")
			}
		}
	}
}
