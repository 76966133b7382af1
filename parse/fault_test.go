package parse_test

import (
	"strings"
	"testing"

	"jigsaw/api"
	"jigsaw/lex"
	"jigsaw/parse"
)

// spread is a text with something else between its tokens, ahead of them and behind.
func spread(t *testing.T, s, gap string) string {
	t.Helper()
	tokens, e, _ := lex.Scan(s)
	if e != api.OK {
		t.Fatal("Scan", e)
	}
	out := gap
	for _, x := range tokens {
		out += x.Text + gap
	}
	return out
}

// reserved is the words that are no names.
func reserved() []string {
	return strings.Fields("true false bool int float set of var array constraint solve satisfy minimize maximize predicate")
}

// P16.1: what Scan refuses is refused so, ahead of all else.
func TestFaultsOfScan(t *testing.T) {
	refused(t, "var var var @1.5", api.ErrMore)
	refused(t, "predicate float ; @$", api.ErrToken)
	refused(t, "solve satisfy; @\"", api.ErrToken)
	refused(t, "int: x = @10000000000;"+tail, api.ErrToken)
	refused(t, "@"+strings.Repeat(" ", api.MaxText)+"s", api.ErrSize)
	refused(t, "@"+everything+strings.Repeat(" ", api.MaxText), api.ErrSize)
	s := "solve satisfy;"
	read(t, s+strings.Repeat(" ", api.MaxText-len(s)))
	refused(t, "@"+s+strings.Repeat(" ", api.MaxText-len(s)+1), api.ErrSize)
}

// P16.1: float at each place where it is told to be not in the fragment, and at others.
func TestFloat(t *testing.T) {
	for _, s := range []string{
		"@float: x;", "var @float: x;", "set of @float: x;", "var set of @float: x;",
		"array [1..2] of @float: x;", "array [1..2] of var @float: x;", "array [1..2] of set of @float: x;", "array [1..2] of var set of @float: x;",
		"@float", "var @float", "int: x; @float: y;", "bool: x = true; var @float: y;",
	} {
		refused(t, s, api.ErrMore)
		refused(t, s+tail, api.ErrMore)
	}
	for _, s := range []string{
		"set @float: x;", "set of int @float: x;", "set of @set float: x;", "array @float: x;", "array [@float] of int: x;", "array [1..@float] of int: x;", "array [1..2] @float: x;",
		"int @float: x;", "int: @float;", "int: x = @float;", "int: x :: @float;", "1 @float: x;", "1..@float: x;", "{@float}: x;", "{1, @float}: x;", "var @var float: x;",
		"constraint c(); @float: x;", "constraint @float();", "constraint c(@float);", "constraint c(1, @float);", "constraint c() @float;",
		"solve @float;", "solve minimize @float;", "solve :: @float satisfy;", "solve satisfy; @float: x;", "solve satisfy @float;",
	} {
		refused(t, s, api.ErrParse)
	}
}

// P16.1: predicate where a declaration, the solve or the end could stand, and at other places.
func TestPredicate(t *testing.T) {
	for _, s := range []string{
		"@predicate", "@predicate p();", "@predicate p(var int: x);", "int: x; @predicate p();", "int: x = 1; var 1..2: y; @predicate",
		"constraint c(); @predicate p();", "int: x; constraint c(); constraint d(); @predicate", "solve satisfy; @predicate", "int: x; solve minimize x; @predicate p();",
	} {
		refused(t, s, api.ErrMore)
		refused(t, s+tail, api.ErrMore)
	}
	for _, s := range []string{
		"var @predicate: x;", "int: @predicate;", "int @predicate", "int: x @predicate", "int: x = @predicate;", "int: x :: @predicate;", "set @predicate", "set of @predicate", "array [1..2] of @predicate",
		"{@predicate", "constraint @predicate();", "constraint c(@predicate", "constraint c() @predicate", "constraint c() :: @predicate", "solve @predicate", "solve satisfy @predicate", "solve minimize @predicate", "solve minimize x @predicate",
	} {
		refused(t, s, api.ErrParse)
	}
}

// P16.1: no word that the grammar has another use for is a name.
func TestNoNames(t *testing.T) {
	for _, w := range reserved() {
		refused(t, "int: @"+w+";"+tail, api.ErrParse)
		refused(t, "constraint @"+w+"();"+tail, api.ErrParse)
		if w == "true" || w == "false" {
			refused(t, "int: x = "+w+"@[1];"+tail, api.ErrParse)
			refused(t, "int: x = "+w+"@(1);"+tail, api.ErrParse)
			continue
		}
		for _, s := range []string{"int: x = @%;", "int: x :: @%;", "int: x = @%[1];", "int: x = @%(1);", "int: x = [@%];", "int: x = [1, @%];", "int: x = f(@%);", "int: x = f(1, @%);", "constraint c(@%);", "constraint c(1) :: @%;", "solve :: @% satisfy;", "solve minimize @%;"} {
			refused(t, strings.Replace(s, "%", w, 1)+tail, api.ErrParse)
		}
	}
	for _, w := range []string{"1", `"a"`, "-5", "::", ";", "(", "="} {
		refused(t, "int: @"+w+";"+tail, api.ErrParse)
		refused(t, "constraint @"+w+"();"+tail, api.ErrParse)
	}
}

// P16.1: the end ahead of its time, behind each token of a program; and something behind the solve.
func TestEnds(t *testing.T) {
	tokens, _, _ := lex.Scan(everything)
	for _, x := range tokens[:len(tokens)-2] {
		refused(t, everything[:x.At+len(x.Text)]+" % more\n@", api.ErrParse)
	}
	refused(t, "@", api.ErrParse)
	refused(t, " \n%@", api.ErrParse)
	for _, s := range []string{"solve", ";", "var", "int", "x", "1", `"a"`, "constraint", "{", "::", "float", "true", "="} {
		refused(t, "solve satisfy;@"+s, api.ErrParse)
	}
}

// P16.1: a token that can not stand, at each place of a declaration.
func TestFaultsOfDeclarations(t *testing.T) {
	for _, s := range []string{
		"@x: int;", "@;", "@: x;", "@of int: x;", "@[1]: x;", "@true: x;", "@\"a\": x;", "@..1: x;", "@satisfy;", "@::a;",
		"var @x: y;", "var @: x;", "var @var int: x;", "var @array [1..2] of int: x;", "var @true: x;", "var @\"a\": x;", "var @set1 of int: x;",
		"int @x;", "int @;", "int @:: x;", "int @..3: x;", "int @[1..2]: x;", "bool @int: x;",
		"set @int: x;", "set @1..2: x;", "set @: x;", "set of @: x;", "set of @bool: x;", "set of @set of int: x;", "set of @var int: x;", "set of @array [1..2] of int: x;", "set of @x: y;",
		"1 @: x;", "1 .. @.. 3: x;", "1..@: x;", "1..@x: y;", "1..@{}: y;", "1..2 @..3: y;", "1 @, 2: x;", "1..@\"2\": x;", "1 @2: x;",
		"{@,}: x;", "{1@: x;", "{1 @2}: x;", "{1,@}: x;", "{1,@,2}: x;", "{1 @.. 2}: x;", "{@x}: y;", "{1, @x}: y;", "{@{}}: x;", "{@\"a\"}: x;", "{1 @]: x;", "{1@;", "{@true}: x;",
		"array @1..2 of int: x;", "array @of int: x;", "array [@] of int: x;", "array [@x] of int: x;", "array [@0..2] of int: x;", "array [@2..2] of int: x;", "array [@-1..2] of int: x;", "array [@2000..2] of int: x;", "array [@int] of int: x;",
		"array [1@] of int: x;", "array [1 @, 2] of int: x;", "array [1..@] of int: x;", "array [1..@x] of int: x;", "array [1..@\"2\"] of int: x;", "array [1..2 @, 1..2] of int: x;", "array [1..2 @of int: x;", "array [1..2] @int: x;", "array [1..2] @var int: x;",
		"array [1..2] of @array [1..2] of int: x;", "array [1..2] of @: x;", "array [1..2] of @x: y;", "array [1..2] of var @: x;", "array [1..2] of var @var int: x;", "array [1..2] of @[1]: x;",
		"int: @: x;", "int: @= 1;", "int: x @y;", "int: x @: y;", "int: x @1;", "int: x @[1];", "int: x @(1);", "int: x @, y;", "int: x @..;",
		"int: x :: @;", "int: x :: @= 1;", "int: x :: @:: a;", "int: x :: a @b;", "int: x :: a @, b;", "int: x :: a @];",
		"int: x = @;", "int: x = @= 1;", "int: x = 1 @2;", "int: x = 1 @= 2;", "int: x = 1 @:: a;", "int: x = 1 @, 2;", "int: x = @..2;", "int: x = 1..@;", "int: x = 1..@x;", "int: x = 1..2 @..3;", "int: x = x @..3;", "int: x = \"a\" @\"b\";",
	} {
		refused(t, s+tail, api.ErrParse)
	}
}

// P16.1: a token that can not stand, at each place of an expression, wherever that stands.
func TestFaultsOfExpressions(t *testing.T) {
	for _, s := range []string{
		"@)", "@]", "@}", "@,", "@..", "@:", "@=", "@..1",
		"{@x}", "{@true}", "{@{}}", "{@,}", "{1,@,}", "{1,@}", "{1 @2}", "{1 @..2}", "{1 @]", "{1 @)", "{@[]}", "{@\"a\"}", "{1, @x}", "{@..}", "{1@:",
		"[@,]", "[@,1]", "[1,@]", "[1,@,2]", "[1 @2]", "[1 @)", "[1 @}", "[1@;", "[x @= 1]", "[@)", "[@}", "[@::]", "[@var]", "[1, @int]", "[x @:: y]",
		"f(@,)", "f(@,1)", "f(1,@)", "f(1,@,2)", "f(1 @2)", "f(1 @]", "f(1 @}", "f(1@;", "f(@]", "f(@}", "f(x @:: y)", "f(1)@(2)", "f()@[1]", "f(x @= 1)", "f(@var)",
		"x[@]", "x[@y]", "x[@true]", "x[1 @, 2]", "x[1 @..2]", "x[1@)", "x[1]@[2]", "x[1]@(2)", "x[@\"a\"]", "x[@[]]", "x[@..2]", "x @{}", "x @1", "x @\"a\"", "x @y",
		"1 @[2]", "1 @(2)", "1..2 @[1]", "\"a\" @(1)", "\"a\" @[1]", "[] @[1]", "[] @[]", "{} @{}", "{} @[1]", "true @false", "1..@x", "1..@\"a\"", "1..@{}", "1..@..2",
	} {
		s = strings.Replace(s, "1 @..x", "1..@x", 1)
		s = strings.Replace(s, "{1,@,}", "{1,@,}", 1)
		refused(t, "int: a = "+s+";"+tail, api.ErrParse)
		refused(t, "int: a :: "+s+";"+tail, api.ErrParse)
		refused(t, "constraint c(1) :: "+s+";"+tail, api.ErrParse)
		refused(t, "solve :: "+s+" satisfy;", api.ErrParse)
		refused(t, "solve minimize "+s+";", api.ErrParse)
	}
}

// P16.1: a token that can not stand, at each place of a constraint and of the solve.
func TestFaultsOfItems(t *testing.T) {
	for _, s := range []string{
		"constraint @;", "constraint @();", "constraint @1();", "constraint @\"c\"();", "constraint @(c);",
		"constraint c@;", "constraint c @[1];", "constraint c @{};", "constraint c @:: a;", "constraint c @x;", "constraint c @= 1;", "constraint c @\"(\";",
		"constraint c(@;", "constraint c(@,);", "constraint c(1@;", "constraint c(1 @2);", "constraint c(1,@);", "constraint c(1,@,2);", "constraint c(1 @];", "constraint c(@var);", "constraint c(@::);", "constraint c(x @:: a);",
		"constraint c() @();", "constraint c() @x;", "constraint c() @= 1;", "constraint c() @, d();", "constraint c() @constraint d();", "constraint c() :: @;", "constraint c() :: a @b;",
		"constraint c(); @var int: x;", "constraint c(); @int: x;", "constraint c(); @bool: x;", "constraint c(); @set of int: x;", "constraint c(); @array [1..2] of int: x;", "constraint c(); @1..2: x;", "constraint c(); @{}: x;", "constraint c(); @;", "constraint c(); @c();", "constraint c(); @of",
		"int: x; @;", "int: x; @x;", "int: x; @of", "int: x; @true",
		"solve @;", "solve @x;", "solve @x satisfy;", "solve @:", "solve @solve", "solve @= x;", "solve @constraint c();", "solve :: @satisfy;", "solve :: @;", "solve :: a @;", "solve :: a @b satisfy;", "solve :: a @, b satisfy;",
		"solve satisfy @x;", "solve satisfy @:: a;", "solve satisfy @satisfy;", "solve satisfy @minimize x;", "solve satisfy @..",
		"solve minimize @;", "solve minimize @:: a;", "solve minimize x @y;", "solve minimize x @:: a;", "solve minimize x @, y;", "solve maximize @;", "solve maximize @maximize x;", "solve maximize x @= 1;",
	} {
		refused(t, s+tail, api.ErrParse)
	}
}

// P16.1: the first fault is told, whatever stands behind it.
func TestFirstFault(t *testing.T) {
	refused(t, "var @x: y; var float: z;"+tail, api.ErrParse)
	refused(t, "var @float: z; var x: y;"+tail, api.ErrMore)
	refused(t, "array [1..@1001] of float: z;"+tail, api.ErrSize)
	refused(t, "array [1..@1001: z;", api.ErrSize)
	refused(t, "array [@2..1001] of int: z;"+tail, api.ErrParse)
	refused(t, "var @1000001..x: z;"+tail, api.ErrArg)
	refused(t, "@1000001 x", api.ErrArg)
	refused(t, "var 1..@x: z; var 0..1000001: z;"+tail, api.ErrParse)
	refused(t, "var {1, @1000001, x: z;"+tail, api.ErrArg)
	refused(t, "array [1..@1001] of 0..1000001: z;"+tail, api.ErrSize)
	refused(t, "array [1..1000] of 0..@1000001: z; predicate", api.ErrArg)
	refused(t, "int: x = [1 @2]; var float: y;"+tail, api.ErrParse)
}

// P16.4, P16.5: a fault is the same one with something else between the tokens, at its token's place.
func TestFaultsAmongComments(t *testing.T) {
	for _, s := range []string{"var @float: x;", "solve satisfy@", "int: x = [1, @var];", "array [1..@1001] of int: x;", "var 1..@1000001: x;", "solve satisfy; @predicate", "constraint c(x @y);"} {
		for _, gap := range []string{" ", "%\n", "\t% float \n\r"} {
			ahead, behind, _ := strings.Cut(s, "@")
			marked := strings.TrimSuffix(spread(t, ahead, gap), gap) + gap + "@" + strings.TrimPrefix(spread(t, behind, gap), gap)
			if behind == "" {
				marked = spread(t, ahead, gap) + "@"
			}
			_, e, _ := parse.Parse(ahead + behind)
			refused(t, marked, e)
		}
	}
}
