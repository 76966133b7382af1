package post_test

import (
	"strings"
	"testing"

	"jigsaw/api"
	"jigsaw/post"
)

// P18.1: output_var and output_array at each kind of declaration. Each text stands behind a declaration that is right.
func TestOutputs(t *testing.T) {
	for _, c := range []struct {
		s    string
		want string // its outputs; ErrOut, if there is nothing
	}{
		{"var bool: x :: output_var;", "x:1 one [x1]"},
		{"var int: x :: output_var;", "x:2 one [x1]"},
		{"var 1..2: x :: output_var = y;", "x:2 one [x1]"},
		{"var set of 1..2: x :: output_var;", "x:3 one [x1]"},
		{"bool: x :: output_var = true;", ""},
		{"int: x :: output_var = 1;", ""},
		{"set of int: x :: output_var = {};", ""},
		{"array [1..1] of int: x :: output_var = [1];", ""},
		{"array [1..1] of var int: x :: output_var = [y];", ""},
		{"array [1..0] of var set of int: x :: output_var = [];", ""},
		{"var int: x :: output_array([1..1]);", ""},
		{"var int: x :: output_array;", ""},
		{"var int: x :: output_array([2..1]);", ""},
		{"int: x :: output_array([1..1]) = 1;", ""},
		{"set of int: x :: output_array([1..1]) = {1};", ""},
		{"array [1..2] of bool: x :: output_array([1..2]) = [true, true];", "x:1 1..2 [1, 1]"},
		{"array [1..2] of int: x :: output_array([0..1]) = [1, 1000000000];", "x:2 0..1 [1, 1000000000]"},
		{"array [1..2] of set of int: x :: output_array([-1..0]) = [{}, {3, 1}];", "x:3 -1..0 [{}, {1,3}]"},
		{"array [1..2] of var bool: x :: output_array([1..2]) = [true, false];", "x:1 1..2 [1, 0]"},
		{"array [1..2] of var int: x :: output_array([1..2]) = [y, 3];", "x:2 1..2 [x0, 3]"},
		{"array [1..2] of var set of int: x :: output_array([1..2]) = [{}, {}];", "x:3 1..2 [{}, {}]"},
		{"array [1..2] of int: x :: output_array = [1, 2];", ""},
		{"array [1..2] of int: x :: output_array() = [1, 2];", ""},
		{"array [1..2] of int: x :: output_array(1..2) = [1, 2];", ""},
		{"array [1..2] of int: x :: output_array([1..2], 1) = [1, 2];", ""},
		{"array [1..2] of int: x :: output_array([1..2], [1..2]) = [1, 2];", ""},
		{"array [1..2] of int: x :: output_array([]) = [1, 2];", ""},
		{"array [1..0] of int: x :: output_array([]) = [];", ""},
		{"array [1..1] of int: x :: output_array([]) = [1];", ""},
		{"array [1..2] of int: x :: output_array([{1, 2}]) = [1, 2];", ""},
		{"array [1..2] of int: x :: output_array([1..2, 1]) = [1, 2];", ""},
		{"set of int: d = 1..2; array [1..2] of int: x :: output_array([d]) = [1, 2];", ""},
		{"array [1..2] of int: x :: output_array(x) = [1, 2];", ""},
		{"array [1..2] of int: x :: output_array([1..1]) = [1, 2];", ""},
		{"array [1..2] of int: x :: output_array([1..3]) = [1, 2];", ""},
		{"array [1..2] of int: x :: output_array([2..1]) = [1, 2];", ""},
		{"array [1..6] of int: x :: output_array([1..2, 5..7]) = [1, 2, 3, 4, 5, 6];", "x:2 1..2 5..7 [1, 2, 3, 4, 5, 6]"},
		{"array [1..6] of int: x :: output_array([1..2, 5..7, 0..0]) = [1, 2, 3, 4, 5, 6];", "x:2 1..2 5..7 0..0 [1, 2, 3, 4, 5, 6]"},
		{"array [1..6] of int: x :: output_array([1..2, 5..8]) = [1, 2, 3, 4, 5, 6];", ""},
		{"array [1..6] of int: x :: output_array([1..2, 2..1]) = [1, 2, 3, 4, 5, 6];", ""},
		{"array [1..0] of int: x :: output_array([1..2, 2..1]) = [];", "x:2 1..2 2..1 []"},
		{"array [1..0] of int: x :: output_array([1000000..-1000000]) = [];", "x:2 1000000..-1000000 []"},
		{"array [1..0] of int: x :: output_array([1..2]) = [];", ""},
		{"array [1..1] of int: x :: output_array([1000000..1000000, -1000000..-1000000]) = [1];", "x:2 1000000..1000000 -1000000..-1000000 [1]"},
		{"array [1..1] of int: x :: output_array([1000001..1000001]) = [1];", ""},
		{"array [1..1] of int: x :: output_array([-1000001..-1000001]) = [1];", ""},
		{"array [1..0] of int: x :: output_array([1..-1000001]) = [];", ""},
		{"array [1..0] of int: x :: output_array([1000001..1]) = [];", ""},
		{"array [1..0] of int: x :: output_array([3..1, 1000001..1]) = [];", ""},
		{"array [1..0] of int: x :: output_array([" + strings.Repeat("-1000000..1000000, ", 12) + "2..1]) = [];", "x:2 " + strings.Repeat("-1000000..1000000 ", 12) + "2..1 []"},
		{"array [1..1] of int: x :: output_array([" + strings.Repeat("-1000000..1000000, ", 12) + "1..1]) = [1];", ""},
		{"array [1..1] of int: x :: output_array([" + strings.Repeat("1..65536, ", 4) + "1..1]) = [1];", ""},
		{"array [1..0] of int: x :: output_array([" + strings.Repeat("1..65536, ", 4) + "1..1]) = [];", ""},
		{"var int: x :: note :: output_var :: output_var :: output_array;", "x:2 one [x1]"},
		{"var int: x :: output_array :: output_var;", ""},
		{"var int: x :: output_var() :: output_var(1) :: \"output_var\" :: output_var[1];", "none"},
		{"int: x :: output_var() = 1;", "none"},
		{"int: x :: \"output_array\" :: output_array[1] :: note(output_var) :: [output_array] = 1;", "none"},
		{"array [1..1] of int: x :: output_array([1..1]) :: output_array([0..0]) :: output_var = [1];", "x:2 1..1 [1]"},
		{"array [1..1] of int: x :: output_array([1..2]) :: output_array([0..0]) = [1];", ""},
		{"array [1..1] of int: x :: output_var :: output_array([0..0]) = [1];", ""},
		{"int: x = 1;", "none"},
	} {
		const ahead, tail = "var 1..2: y; ", " solve satisfy;"
		if c.want == "" {
			p := read(t, ahead+c.s+tail)
			refused(t, p, api.ErrOut, post.InDecl, len(p.Decls)-1)
			continue
		}
		if got := strings.Split(told(posted(t, ahead+c.s+tail)), " | ")[4]; got != strings.TrimPrefix(c.want, "none") {
			t.Errorf("%s: %s; want %s", c.s, got, c.want)
		}
	}
}

// P18.1: outputs in the order of the declarations; the first one at fault is told.
func TestOrderOfOutputs(t *testing.T) {
	p := posted(t, "var 1..2: y :: output_var; int: n = 1; array [1..1] of int: a :: output_array([1..1]) = [n]; var 1..2: b :: output_var; solve satisfy;")
	if got := strings.Split(told(p), " | ")[4]; got != "y:2 one [x0]; a:2 1..1 [1]; b:2 one [x1]" {
		t.Error(got)
	}
	refused(t, read(t, "var 1..2: y :: output_var; int: n :: output_var = 1; int: m :: output_array = 1; solve satisfy;"), api.ErrOut, post.InDecl, 1)
	x := read(t, "array [1..1] of int: a :: output_array([1..1]) = [1]; solve satisfy;")
	x.Decls[0].Anns[0].L[0].L[0] = span(1<<62, 1<<62)
	refused(t, x, api.ErrOut, post.InDecl, 0)
	x.Decls[0].Anns[0].L[0].L[0] = span(-1<<63, 1<<63-1)
	refused(t, x, api.ErrOut, post.InDecl, 0)
	x.Decls[0].Anns[0].L[0].L[0] = span(1, 1)
	if _, e, _, _ := post.Post(x); e != api.OK {
		t.Error("Post", e)
	}
	x.Decls[0].Anns[0].Kind = api.EName
	refused(t, x, api.ErrOut, post.InDecl, 0)
}
