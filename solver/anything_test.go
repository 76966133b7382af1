package solver_test

import (
	"math"
	"strings"
	"testing"

	"jigsaw/api"
	"jigsaw/out"
	"jigsaw/parse"
	"jigsaw/post"
	"jigsaw/search"
	"jigsaw/solver"
)

// statusOf is the last line of what has no blocks by what is wrong, in the order of P22.1; empty, if nothing is.
func statusOf(s string, o api.Options) string {
	p, e, at := parse.Parse(s)
	if e != api.OK {
		return out.Status(out.Error, e, 0, at)
	}
	q, e, part, at := post.Post(p)
	if e != api.OK {
		return out.Status(out.Error, e, part, at)
	}
	if e := out.Right(q.Outs); e != api.OK {
		return out.Status(out.Error, e, 0, 0)
	}
	if e := search.Right(o); e != api.OK {
		return out.Status(out.Error, e, 4, 0)
	}
	return ""
}

// isRun holds that a run's text is one, P22.4: of what is wrong just the error, else blocks of the outputs and one last line.
func isRun(t *testing.T, s string, o api.Options) {
	t.Helper()
	text := solver.Run(s, o)
	if want := statusOf(s, o); want != "" {
		if text != want {
			t.Fatalf("Run(%.300q, %+v): %q, not %q", s, o, text, want)
		}
		return
	}
	if _, how, e, at := out.Stream(text, posted(t, s).Outs); e != api.OK || how == out.Error {
		t.Fatalf("Run(%.300q): no run's text at %d: %q", s, at, text)
	}
}

// spoilt is a program with some of its numbers greater, or some of its words exchanged, doubled or left out, or with other bytes.
func (g game) spoilt(s string) string {
	if g.IntN(2) == 0 {
		return strings.Replace(s, g.pick("1", "2", "3", "4"), g.pick("1000000", "1000001", "1000000000", "7", "-5"), 1+g.IntN(2))
	}
	words := strings.Split(s, " ")
	for range 1 + g.IntN(2) {
		i, k := g.IntN(len(words)), g.IntN(len(words))
		switch g.IntN(5) {
		case 0:
			words[i], words[k] = words[k], words[i]
		case 1:
			words[i] = words[k]
		case 2:
			words[i] = ""
		case 3:
			words[i] += g.pick("0", "1.5", ";", "::", "{}", "x", "\xff", "\"", "%", "[1]", "(", "..3")
		default:
			words[i] = g.pick("-1", "1000000", "1000001", "1000000000", "10000000000", "float", "predicate", "var", "true", "[]", "{}", "x", "z", "satisfy;", "output_array([1..1])")
		}
	}
	return strings.Join(words, " ")
}

// P1, P4, P22.1: whatever is handed in, each call ends and answers.
func TestAnything(t *testing.T) {
	g := newGame(1)
	numbers := []int64{math.MinInt64, -1, 0, 1, 2, 3, 100, 101, api.Big, api.Big + 1, math.MaxInt64}
	n := func() int64 { return numbers[g.IntN(len(numbers))] }
	wrong := 0
	for range 6000 {
		s, o := g.spoilt(g.program()), g.options()
		o.Nodes = min(o.Nodes, 30)
		if g.IntN(4) == 0 {
			o = api.Options{All: g.IntN(2) == 0, Nodes: min(n(), 30), Restart: int(n()), Scale: n(), Lns: int(n()), Draws: []int{int(n()), int(n())}}
		}
		if statusOf(s, o) != "" {
			wrong++
		}
		isRun(t, s, o)
		enough, e := solver.Enough(s, o)
		if e == api.OK && (enough < 1 || enough > api.MaxBudget) || e != api.OK && enough != 0 {
			t.Fatal("Enough", s, o, enough, e)
		}
		line, e := solver.Text(o)
		if again, f := solver.Options(line); e == api.OK && (f != api.OK || told(again) != told(o)) || e != api.OK && line != "" {
			t.Fatal("Text", o, line, e, f)
		}
	}
	if wrong < 2000 || wrong > 5500 {
		t.Error("wrong ones:", wrong)
	}
	bytes := []byte("vararray [1..2] of int: x = constraint solve satisfy;\"%\x00\xff\n-")
	for range 5000 {
		text := make([]byte, g.IntN(40))
		for i := range text {
			text[i] = bytes[g.IntN(len(bytes))]
		}
		isRun(t, string(text), g.options())
		solver.Options(string(text))
	}
}

// A program at any bytes: it ends, and what is printed is a run's text.
func FuzzRun(f *testing.F) {
	g := newGame(2)
	for range 50 {
		f.Add(g.program())
	}
	f.Add(money)
	f.Fuzz(func(t *testing.T, s string) {
		isRun(t, s, api.Options{All: true, Nodes: 5, Restart: api.RLuby, Scale: 2, Nogoods: true, Lns: 50})
	})
}
