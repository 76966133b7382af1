package lex_test

import (
	"slices"
	"strings"
	"testing"

	"jigsaw/api"
	"jigsaw/lex"
)

func word(s string, at int) api.Token { return api.Token{Kind: api.TWord, Text: s, At: at} }

func whole(s string, n int64, at int) api.Token {
	return api.Token{Kind: api.TInt, Text: s, N: n, At: at}
}

func quoted(s string, at int) api.Token { return api.Token{Kind: api.TString, Text: s, At: at} }

func sign(s string, at int) api.Token { return api.Token{Kind: api.TSign, Text: s, At: at} }

func end(at int) api.Token { return api.Token{Kind: api.TEnd, At: at} }

func short(s string) string { return s[:min(len(s), 60)] }

// scanned asks for these tokens of a text, of Scan and of Each.
func scanned(t *testing.T, s string, want ...api.Token) {
	t.Helper()
	l, e, at := lex.Scan(s)
	if e != api.OK || at != 0 || !slices.Equal(l, want) {
		t.Errorf("Scan(%q) = %v, %d, %d; want %v", short(s), l, e, at, want)
	}
	if got := slices.Collect(lex.Each(s)); !slices.Equal(got, want) {
		t.Errorf("Each(%q) = %v; want %v", short(s), got, want)
	}
}

// refused asks for an error at the place of the @ in the text, which is taken out of it; and for the tokens ahead of it.
func refused(t *testing.T, marked string, want api.Errno, ahead ...api.Token) {
	t.Helper()
	place := strings.Index(marked, "@")
	s := marked[:place] + marked[place+1:]
	l, e, at := lex.Scan(s)
	if e != want || at != place || len(l) != 0 {
		t.Errorf("Scan(%q) = %v, %d, %d; want %d, %d", short(s), l, e, at, want, place)
	}
	if got := slices.Collect(lex.Each(s)); !slices.Equal(got, ahead) {
		t.Errorf("Each(%q) = %v; want %v", short(s), got, ahead)
	}
}

// texts is programs and other texts that have no fault.
func texts() []string {
	return []string{
		"", " \t\r\n", "% all", "a", "-0", "007", "\"\"",
		"var 1..5: x; % end",
		"var 1..3: x :: output_var;\nconstraint int_le(x, 2); % two\nsolve maximize x;\n",
		"array [1..2] of var set of {1,-3}:a::\"50 % of it\"=[x,{}];solve satisfy;",
		"1abc e5 1e 1ex 2E 3.. 4..5..6-7-8 x..y ::: = :: : ::::..,()[]{};",
		"_ __ _1 aA0_ Z9 \"\xff\x00\t\r'\\\"\"b\"",
		"1000000000 -1000000000 0000000000000000000000000000000000000000000000000001",
	}
}
