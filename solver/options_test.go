package solver_test

import (
	"fmt"
	"regexp"
	"strconv"
	"strings"
	"testing"

	"jigsaw/api"
	"jigsaw/search"
	"jigsaw/solver"
)

func told(o api.Options) string { return fmt.Sprintf("%+v", o) }

// P22.3: options as a line, and read again.
func TestOptions(t *testing.T) {
	for _, c := range []struct {
		line string
		o    api.Options
	}{
		{"-n 1", api.Options{Nodes: 1}},
		{"-a -n 100", api.Options{All: true, Nodes: 100}},
		{"-n 100 -r luby 10 -g", api.Options{Nodes: 100, Restart: api.RLuby, Scale: 10, Nogoods: true}},
		{"-n 1000000000000 -r constant 1", api.Options{Nodes: api.MaxBudget, Restart: api.RConstant, Scale: 1}},
		{"-n 5 -r geometric 1000000 -l 100", api.Options{Nodes: 5, Restart: api.RGeometric, Scale: api.Big, Lns: 100}},
		{"-n 5 -g", api.Options{Nodes: 5, Nogoods: true}},
		{"-n 5 -l 1", api.Options{Nodes: 5, Lns: 1}},
		{"-n 5 -d 0", api.Options{Nodes: 5, Draws: []int{0}}},
		{"-n 5 -d 1,-2,9223372036854775807,-9223372036854775808", api.Options{Nodes: 5, Draws: []int{1, -2, 1<<63 - 1, -1 << 63}}},
		{"-a -n 5 -r luby 3 -g -l 50 -d 1,-2", api.Options{All: true, Nodes: 5, Restart: api.RLuby, Scale: 3, Nogoods: true, Lns: 50, Draws: []int{1, -2}}},
	} {
		if line, e := solver.Text(c.o); line != c.line || e != api.OK {
			t.Error("Text", c.o, line, e)
		}
		if o, e := solver.Options(c.line); told(o) != told(c.o) || e != api.OK {
			t.Error("Options", c.line, o, e)
		}
	}
	if line, e := solver.Text(api.Options{Nodes: 5, Draws: []int{}}); line != "-n 5" || e != api.OK {
		t.Error("no draws", line, e)
	}
}

// P22.3: what is no line.
func TestNoOptions(t *testing.T) {
	for _, line := range []string{
		"", " ", "-a", "-n", "-n ", "n 5", "5", "-n 0", "-n -1", "-n 05", "-n +5", "-n 5.0", "-n five", "-n 1000000000001", "-n 99999999999999999999", "-N 5", "-n5", "-n=5",
		" -n 5", "-n 5 ", "-n  5", "-n 5\n", "-n\t5", "-n 5 -a", "-a -a -n 5", "-n 5 -n 5", "-a  -n 5", "-a -n 5  -g",
		"-n 5 -r", "-n 5 -r luby", "-n 5 -r luby ", "-n 5 -r luby 0", "-n 5 -r luby -1", "-n 5 -r luby 01", "-n 5 -r luby 1000001", "-n 5 -r Luby 1", "-n 5 -r none 0", "-n 5 -r none 1", "-n 5 -r 1", "-n 5 -r luby 1 -r luby 1", "-n 5 -r luby x", "-r luby 1 -n 5", "-n 5 -r 2 10",
		"-n 5 -g -g", "-g -n 5", "-n 5 -g -r luby 1", "-n 5 -l", "-n 5 -l 0", "-n 5 -l 101", "-n 5 -l -1", "-n 5 -l 01", "-n 5 -l x", "-n 5 -l 5 -g",
		"-n 5 -d", "-n 5 -d ", "-n 5 -d ,", "-n 5 -d 1,", "-n 5 -d ,1", "-n 5 -d 1,,2", "-n 5 -d 1, 2", "-n 5 -d 1 2", "-n 5 -d -0", "-n 5 -d 01", "-n 5 -d +1", "-n 5 -d x", "-n 5 -d 9223372036854775808", "-n 5 -d --1", "-n 5 -d 1 -l 5", "-n 5 -d 1 -d 2", "-n 5 x", "-n 5 é", "\xff",
		"-n 5 -d 0" + strings.Repeat(",0", api.MaxDraws), // one draw too many
		strings.Repeat(" ", api.MaxText),
	} {
		if o, e := solver.Options(line); e != api.ErrArg || told(o) != told(api.Options{}) {
			t.Errorf("Options(%.60q): %v, %d", line, o, e)
		}
	}
	if o, e := solver.Options(strings.Repeat(" ", api.MaxText+1)); e != api.ErrSize || told(o) != told(api.Options{}) {
		t.Error("too long", o, e)
	}
}

// P22.3: what has no line, the errors in their order.
func TestNoText(t *testing.T) {
	many := make([]int, api.MaxDraws+1)
	long := make([]int, api.MaxDraws)
	for i := range long {
		long[i] = 1234567
	}
	for _, c := range []struct {
		o api.Options
		e api.Errno
	}{
		{api.Options{}, api.ErrArg},
		{api.Options{Nodes: -1, Draws: many}, api.ErrArg},
		{api.Options{Nodes: 1, Draws: many, Scale: 1}, api.ErrSize},
		{api.Options{Nodes: 1, Restart: -1}, api.ErrArg},
		{api.Options{Nodes: 1, Restart: 4, Scale: 1}, api.ErrArg},
		{api.Options{Nodes: 1, Restart: api.RConstant}, api.ErrArg},
		{api.Options{Nodes: 1, Lns: 101}, api.ErrArg},
		{api.Options{Nodes: 1, Scale: 1}, api.ErrArg},
		{api.Options{Nodes: 1, Scale: -1, Draws: long}, api.ErrArg},
		{api.Options{Nodes: 1, Draws: long}, api.ErrSize},
	} {
		if line, e := solver.Text(c.o); line != "" || e != c.e {
			t.Errorf("Text(%.60v): %.60q, %d", c.o, line, e)
		}
	}
}

// P22.3: a line that is as long as can be, and one that would be a byte longer.
func TestLongestText(t *testing.T) {
	o := api.Options{Nodes: 1, Draws: make([]int, api.MaxDraws)}
	line, e := solver.Text(o)
	if e != api.OK || len(line) != len("-n 1 -d ")+2*api.MaxDraws-1 {
		t.Fatal("all draws", len(line), e)
	}
	if again, e := solver.Options(line); e != api.OK || told(again) != told(o) {
		t.Error("all draws", e)
	}
	more := api.MaxText - len(line)
	for i := range o.Draws {
		for o.Draws[i] < 1000000 && more > 0 {
			o.Draws[i] = max(10*o.Draws[i], 10)
			more--
		}
	}
	line, e = solver.Text(o)
	if e != api.OK || len(line) != api.MaxText {
		t.Fatal("as long as can be", len(line), e)
	}
	if again, e := solver.Options(line); e != api.OK || told(again) != told(o) {
		t.Error("as long as can be", e)
	}
	o.Nodes = 10
	if line, e := solver.Text(o); e != api.ErrSize || line != "" {
		t.Error("longer", len(line), e)
	}
}

var lineText = regexp.MustCompile(`^(-a )?-n ([1-9][0-9]*)( -r (constant|luby|geometric) ([1-9][0-9]*))?( -g)?( -l ([1-9][0-9]*))?( -d (0|-?[1-9][0-9]*)(,(0|-?[1-9][0-9]*))*)?$`)

// isLine is the chapter's words as a pattern; draws are short here.
func isLine(s string) bool {
	m := lineText.FindStringSubmatch(s)
	if m == nil {
		return false
	}
	atMost := func(text string, most uint64) bool {
		n, err := strconv.ParseUint(text, 10, 64)
		return text == "" || err == nil && n <= most
	}
	return atMost(m[2], api.MaxBudget) && atMost(m[5], api.Big) && atMost(m[8], 100)
}

// P22.7: Options(Text(o)) is o. P22.3: whatever is changed in a line is told as the pattern tells it.
func TestDrawnOptions(t *testing.T) {
	g := newGame(7)
	const bytes = "0123456789- ,andrlgubyx"
	lines := 0
	for range 100000 {
		o := g.options()
		line, e := solver.Text(o)
		if e != api.OK {
			t.Fatal("Text", o, e)
		}
		if again, e := solver.Options(line); e != api.OK || told(again) != told(o) {
			t.Fatal("Options", line, again, e)
		}
		at := g.IntN(len(line))
		c := bytes[g.IntN(len(bytes)):][:1]
		bad := []string{line[:at], line[at:], line[:at] + line[at+1:], line[:at] + c + line[at:], line[:at] + c + line[at+1:]}[g.IntN(5)]
		again, e := solver.Options(bad)
		if isLine(bad) {
			lines++
			if text, f := solver.Text(again); e != api.OK || text != bad || f != api.OK || search.Right(again) != api.OK {
				t.Fatalf("Options(%q): %v, %d", bad, again, e)
			}
		} else if e != api.ErrArg || told(again) != told(api.Options{}) {
			t.Fatalf("Options(%q): %v, %d", bad, again, e)
		}
	}
	if lines < 10000 {
		t.Error("too few lines", lines)
	}
}
