package sched_test

import (
	"math/rand/v2"
	"strings"
	"testing"

	"jigsaw/api"
	"jigsaw/cons"
	"jigsaw/dom"
	"jigsaw/sched"
)

const maxBig = int64(api.Big)

// parsed is the constraint of a text that can be read.
func parsed(t *testing.T, s string) api.Con {
	t.Helper()
	c, e := cons.Parse(s)
	if e != api.OK {
		t.Fatal("Parse", s, e)
	}
	return c
}

// doms is domains of whole numbers as text, with a blank between.
func doms(t *testing.T, s string) []api.Dom {
	t.Helper()
	var out []api.Dom
	for _, text := range strings.Fields(s) {
		l, e := dom.Parse(text)
		if e != api.OK {
			t.Fatal("Parse", text, e)
		}
		out = append(out, api.Dom{R: l})
	}
	return out
}

func told(d []api.Dom) string {
	var out []string
	for _, x := range d {
		out = append(out, dom.Text(x.R))
	}
	return strings.Join(out, " ")
}

// prunes asks what becomes of domains: other ones, same, or fail.
func prunes(t *testing.T, text, from, want string) {
	t.Helper()
	d := doms(t, from)
	got, what, e := sched.Prune(parsed(t, text), d)
	answer := told(got)
	switch {
	case what == api.Fail && len(got) == 0:
		answer = "fail"
	case what == api.Same && answer == told(d):
		answer = "same"
	case what != api.Less:
		t.Error(text, from, "what became of it:", what)
	}
	if answer != want || e != api.OK {
		t.Errorf("Prune %s, %s: %s, %d; want %s", text, from, answer, e, want)
	}
}

// refuses asks both calls for an error, of so many variables from 0 to 1, and for nothing else beside it.
func refuses(t *testing.T, text string, vars int, want api.Errno) {
	t.Helper()
	c := parsed(t, text)
	if ok, e := sched.Holds(c, make([]api.Val, vars)); ok || e != want {
		t.Errorf("Holds %s: %v, %d; want %d", text, ok, e, want)
	}
	if got, what, e := sched.Prune(c, spans(vars, 0, 1)); got != nil || what != 0 || e != want {
		t.Errorf("Prune %s: %v, %d, %d; want %d", text, got, what, e, want)
	}
}

// variables is the terms of the first so many variables.
func variables(n int) []api.Term {
	out := make([]api.Term, n)
	for i := range out {
		out[i] = cons.Var(i)
	}
	return out
}

// spans is so many domains from lo to hi.
func spans(n int, lo, hi int64) []api.Dom {
	out := make([]api.Dom, n)
	for i := range out {
		out[i].R = []api.Range{{Lo: lo, Hi: hi}}
	}
	return out
}

// anyDom is some of the values from lo to hi, at least one.
func anyDom(g *rand.Rand, lo, hi int64) api.Dom {
	one := func() int64 { return lo + g.Int64N(hi-lo+1) }
	l := []int64{one()}
	for range g.Int64N(hi - lo + 1) {
		l = append(l, one())
	}
	r, _ := dom.Of(l...)
	return api.Dom{R: r}
}

// partsOf is the parts of a constraint's form.
func partsOf(name string) []string {
	return strings.Split(cons.Form(name), ",")
}
