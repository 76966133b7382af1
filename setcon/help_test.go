package setcon_test

import (
	"fmt"
	"slices"
	"strings"
	"testing"

	"jigsaw/api"
	"jigsaw/cons"
	"jigsaw/dom"
	"jigsaw/setcon"
	"jigsaw/sets"
)

const maxBig = int64(api.Big)

// parsed is the constraint of a text that can be read.
func parsed(t *testing.T, s string) api.Con {
	t.Helper()
	c, e := cons.Parse(s)
	if e != api.OK {
		t.Fatal("Parse", s, e)
	}
	return c
}

// domOf reads a domain: of a whole number its ranges; of a set Lo, Up, Least and Most as {1}{1,2,3}1..2, or Lo and Up alone, or the only set alone.
func domOf(t *testing.T, s string) api.Dom {
	t.Helper()
	if !strings.HasPrefix(s, "{") || s == "{}" {
		l, e := dom.Parse(s)
		if e != api.OK {
			t.Fatal("Parse", s, e)
		}
		return api.Dom{R: l}
	}
	parts := strings.SplitAfter(s, "}")
	lo, e := sets.Parse(parts[0])
	up := lo
	if parts[1] != "" {
		up, e = sets.Parse(parts[1])
	}
	d := api.Dom{Set: true, Lo: lo, Up: slices.Clone(up), Least: len(lo), Most: len(up)}
	if last := parts[len(parts)-1]; last != "" {
		if _, wrong := fmt.Sscanf(last, "%d..%d", &d.Least, &d.Most); wrong != nil {
			t.Fatal("no domain", s, wrong)
		}
	}
	if e != api.OK {
		t.Fatal("no domain", s, e)
	}
	return d
}

func doms(t *testing.T, s string) []api.Dom {
	t.Helper()
	var out []api.Dom
	for _, text := range strings.Fields(s) {
		out = append(out, domOf(t, text))
	}
	return out
}

// told is domains as text, those of sets with all that they have.
func told(d []api.Dom) string {
	var out []string
	for _, x := range d {
		if x.Set {
			out = append(out, fmt.Sprintf("%s%s%d..%d", sets.Text(x.Lo), sets.Text(x.Up), x.Least, x.Most))
		} else {
			out = append(out, dom.Text(x.R))
		}
	}
	return strings.Join(out, " ")
}

// prunes asks what becomes of domains: other ones, same, or fail.
func prunes(t *testing.T, text, from, want string) {
	t.Helper()
	d := doms(t, from)
	got, what, e := setcon.Prune(parsed(t, text), d)
	answer := told(got)
	switch {
	case what == api.Fail && len(got) == 0:
		answer = "fail"
	case what == api.Same && answer == told(d):
		answer = "same"
	case what != api.Less:
		t.Error(text, from, "what became of it:", what)
	}
	if want != "fail" && want != "same" {
		want = told(doms(t, want))
	}
	if answer != want || e != api.OK {
		t.Errorf("Prune %s, %s: %s, %d; want %s", text, from, answer, e, want)
	}
}

// run is so many whole numbers from first on.
func run(first, many int64) []int64 {
	var out []int64
	for n := range many {
		out = append(out, first+n)
	}
	return out
}

func set(l []int64) api.Val { return api.Val{Set: true, S: l} }

// among is a constraint with these terms, an argument each.
func among(name string, l ...api.Term) api.Con {
	c := api.Con{Name: name}
	for _, t := range l {
		c.Args = append(c.Args, cons.One(t))
	}
	return c
}

// hull is the smallest domain of sets that has these.
func hull(l [][]int64) api.Dom {
	if len(l) == 0 {
		return api.Dom{Set: true, Least: 1}
	}
	out := api.Dom{Set: true, Lo: slices.Clone(l[0]), Least: len(l[0])}
	for _, s := range l {
		out.Lo = slices.DeleteFunc(out.Lo, func(e int64) bool { return !slices.Contains(s, e) })
		out.Up = append(out.Up, s...)
		out.Least, out.Most = min(out.Least, len(s)), max(out.Most, len(s))
	}
	slices.Sort(out.Up)
	out.Up = slices.Compact(out.Up)
	return out
}
