package out_test

import (
	"slices"
	"strconv"
	"testing"

	"jigsaw/api"
	"jigsaw/out"
)

// many is n outputs of different names.
func many(n int) []api.Out {
	var l []api.Out
	for i := range n {
		l = append(l, one("x"+strconv.Itoa(i), api.YInt, variable(0)))
	}
	return l
}

// P21.1: what outputs can be, one by one.
func TestRight(t *testing.T) {
	x, zero := variable(0), constant(num(0))
	wide := make([]api.Range, api.MaxNest)
	long := make([]api.Range, api.MaxNest+1)
	huge := make([]api.Range, api.MaxNest)
	for i := range huge {
		huge[i] = r(-maxBig, maxBig)
	}
	hugeAndNone := append(slices.Clone(huge[1:]), r(1, 0))
	noneAndHuge := append([]api.Range{r(1, 0)}, huge[1:]...)
	ofSet := func(c ...int64) api.Out { return one("x", api.YSet, constant(set(c...))) }
	for i, c := range []struct {
		o  api.Out
		ok bool
	}{
		{one("x", api.YInt, x), true},
		{one("_9", api.YBool, x), true},
		{one("true", api.YSet, variable(1000000)), true},
		{one("", api.YInt, x), false},
		{one("9x", api.YInt, x), false},
		{one("x ", api.YInt, x), false},
		{one("x-y", api.YInt, x), false},
		{one("é", api.YInt, x), false},
		{one("x", 0, x), false},
		{one("x", 4, x), false},
		{one("x", -1, x), false},
		{api.Out{Name: "x", Kind: api.YInt, One: true}, false},
		{api.Out{Name: "x", Kind: api.YInt, One: true, L: []api.Term{x, x}}, false},
		{api.Out{Name: "x", Kind: api.YInt, One: true, L: []api.Term{x}, Dims: []api.Range{r(1, 1)}}, false},
		{array("x", api.YInt, nil), false},
		{array("x", api.YInt, nil, x), false},
		{array("x", api.YInt, []api.Range{r(1, 1)}, x), true},
		{array("x", api.YInt, []api.Range{r(1, 0)}), true},
		{array("x", api.YInt, []api.Range{r(1, -5)}), true},
		{array("x", 5, []api.Range{r(1, 0)}), false},
		{array("x", api.YInt, []api.Range{r(1, -5)}, x), false},
		{array("x", api.YInt, []api.Range{r(1, 2)}, x), false},
		{array("x", api.YInt, []api.Range{r(1, 2)}, x, x, x), false},
		{array("x", api.YInt, []api.Range{r(1, 2), r(-1, 0)}, x, x, x, zero), true},
		{array("x", api.YInt, []api.Range{r(1, 0), r(1, 0)}), true},
		{array("x", api.YInt, wide, x), true},
		{array("x", api.YInt, long, x), false},
		{array("x", api.YInt, huge), false},
		{array("x", api.YInt, huge, x), false},
		{array("x", api.YInt, hugeAndNone), true},
		{array("x", api.YInt, noneAndHuge), true},
		{array("x", api.YInt, []api.Range{r(maxBig, maxBig)}, x), true},
		{array("x", api.YInt, []api.Range{r(-maxBig, -maxBig)}, x), true},
		{array("x", api.YInt, []api.Range{r(maxBig+1, maxBig+1)}, x), false},
		{array("x", api.YInt, []api.Range{r(-maxBig-1, -maxBig-1)}, x), false},
		{array("x", api.YInt, []api.Range{r(1, -maxBig-1)}), false},
		{array("x", api.YInt, []api.Range{r(1, 0), r(least, greatest)}), false},
		{one("x", api.YInt, variable(-2)), false},
		{one("x", api.YInt, variable(least)), false},
		{one("x", api.YInt, constant(num(maxBig))), true},
		{one("x", api.YInt, constant(num(-maxBig))), true},
		{one("x", api.YInt, constant(num(maxBig+1))), false},
		{one("x", api.YInt, constant(num(-maxBig-1))), false},
		{one("x", api.YInt, constant(set())), false},
		{one("x", api.YInt, constant(api.Val{N: 1, S: []int64{1}})), false},
		{one("x", api.YBool, constant(num(1))), true},
		{one("x", api.YBool, constant(num(2))), false},
		{one("x", api.YBool, constant(num(-1))), false},
		{one("x", api.YSet, constant(num(0))), false},
		{one("x", api.YSet, constant(api.Val{Set: true, N: 1})), false},
		{ofSet(), true},
		{ofSet(-maxBig, maxBig), true},
		{ofSet(run(1, 64)...), true},
		{ofSet(run(1, 65)...), false},
		{ofSet(2, 1), false},
		{ofSet(1, 1), false},
		{ofSet(maxBig + 1), false},
		{array("x", api.YInt, []api.Range{r(1, 2)}, x, constant(set())), false},
	} {
		want := api.OK
		if !c.ok {
			want = api.ErrOut
		}
		if e := out.Right([]api.Out{one("other", api.YInt, x), c.o}); e != want {
			t.Error(i, c.o, e)
		}
	}
}

// P21.1: too many, then the first that can not be, then two names.
func TestRightOrder(t *testing.T) {
	if e := out.Right(nil); e != api.OK {
		t.Error("of none", e)
	}
	l := many(api.MaxVars)
	if e := out.Right(l); e != api.OK {
		t.Error("MaxVars", e)
	}
	l[999].Name = "x0"
	if e := out.Right(l); e != api.ErrTwice {
		t.Error("twice", e)
	}
	l[500].Kind = 0
	if e := out.Right(l); e != api.ErrOut {
		t.Error("wrong and twice", e)
	}
	if e := out.Right(append(l, l[0])); e != api.ErrFull {
		t.Error("too many", e)
	}
}

// P21.1, P21.3, P21.4: whoever takes outputs answers Right's error of them, ahead of its own.
func TestRefusedOutputs(t *testing.T) {
	long := string(make([]byte, mostText+1))
	for _, c := range []struct {
		l []api.Out
		e api.Errno
	}{
		{many(api.MaxVars + 1), api.ErrFull},
		{[]api.Out{one("x", 0, variable(7))}, api.ErrOut},
		{append(many(2), many(1)...), api.ErrTwice},
	} {
		if v, e := out.Values(c.l, nil); e != c.e || v != nil {
			t.Error("Values", v, e)
		}
		if s, e := out.Block(c.l, nil); e != c.e || s != "" {
			t.Error("Block", s, e)
		}
		if v, e, at := out.Read(long, c.l); e != c.e || v != nil || at != 0 {
			t.Error("Read", v, e, at)
		}
		if v, how, e, at := out.Stream(long, c.l); e != c.e || v != nil || how != 0 || at != 0 {
			t.Error("Stream", v, how, e, at)
		}
	}
}
