package logic_test

import (
	"strings"
	"testing"

	"jigsaw/api"
	"jigsaw/cons"
	"jigsaw/dom"
	"jigsaw/logic"
)

const maxBig = int64(api.Big)

// parsed is the constraint of a text that can be read.
func parsed(t *testing.T, s string) api.Con {
	t.Helper()
	c, e := cons.Parse(s)
	if e != api.OK {
		t.Fatal("Parse", s, e)
	}
	return c
}

// doms is domains of whole numbers as text, with a blank between.
func doms(t *testing.T, s string) []api.Dom {
	t.Helper()
	var out []api.Dom
	for _, text := range strings.Fields(s) {
		l, e := dom.Parse(text)
		if e != api.OK {
			t.Fatal("Parse", text, e)
		}
		out = append(out, api.Dom{R: l})
	}
	return out
}

func told(d []api.Dom) string {
	var out []string
	for _, x := range d {
		out = append(out, dom.Text(x.R))
	}
	return strings.Join(out, " ")
}

// prunes asks what becomes of domains: other ones, same, or fail.
func prunes(t *testing.T, text, from, want string) {
	t.Helper()
	d := doms(t, from)
	got, what, e := logic.Prune(parsed(t, text), d)
	answer := told(got)
	switch {
	case what == api.Fail && len(got) == 0:
		answer = "fail"
	case what == api.Same && answer == told(d):
		answer = "same"
	case what != api.Less:
		t.Error(text, from, "what became of it:", what)
	}
	if answer != want || e != api.OK {
		t.Errorf("Prune %s, %s: %s, %d; want %s", text, from, answer, e, want)
	}
}

// holds asks if a constraint holds of numbers.
func holds(t *testing.T, c api.Con, want bool, numbers ...int64) {
	t.Helper()
	v := make([]api.Val, len(numbers))
	for i, n := range numbers {
		v[i].N = n
	}
	if ok, e := logic.Holds(c, v); ok != want || e != api.OK {
		t.Errorf("Holds %s of %v: %v, %d", cons.Text(c), numbers, ok, e)
	}
}

// among is a constraint with these terms, an argument each.
func among(name string, l ...api.Term) api.Con {
	c := api.Con{Name: name}
	for _, t := range l {
		c.Args = append(c.Args, cons.One(t))
	}
	return c
}
