package lex_test

import (
	"math"
	"slices"
	"strings"
	"testing"

	"jigsaw/api"
	"jigsaw/lex"
)

// P15.1: the document's examples.
func TestExamples(t *testing.T) {
	scanned(t, "var 1..5: x; % end", word("var", 0), whole("1", 1, 4), sign("..", 5), whole("5", 5, 7), sign(":", 8), word("x", 10), sign(";", 11), end(18))
	refused(t, "@1.5", api.ErrMore)
	refused(t, "@-", api.ErrToken)
	refused(t, "@10000000000", api.ErrToken)
	refused(t, "@\"a", api.ErrToken)
}

// P15.1: nothing but blanks and comments; a comment goes to the byte ahead of the next byte 10, or to the end.
func TestNothingButBlanks(t *testing.T) {
	for _, s := range []string{"", " ", "\t", "\n", "\r", " \t\r\n \n", "%", "%%", "% $ \" 1.5 \xff", "%\n", "% a\n%b\n", "%a\r%b", " %\n\t%", "\n\n% x = 1;"} {
		scanned(t, s, end(len(s)))
	}
	scanned(t, "%a\nb%c\nd", word("b", 3), word("d", 7), end(8))
	scanned(t, "a%b", word("a", 0), end(3))
	scanned(t, "%a\rb", end(4))
	scanned(t, "1% .5\n.. %\n2", whole("1", 1, 0), sign("..", 6), whole("2", 2, 11), end(12))
}

// P15.1: bytes that are blanks elsewhere are none here.
func TestOtherBlanks(t *testing.T) {
	for _, s := range []string{"@\v", "@\f", "@\x00", "@\u00a0", "@\u0085", "@\u2003", "@\ufeff", "\n@\v"} {
		refused(t, s, api.ErrToken)
	}
}

// P15.1: words are as long as can be.
func TestWords(t *testing.T) {
	for _, s := range []string{"a", "z", "A", "Z", "_", "a0", "a9", "_0", "aZ_09z", "var", "e5", strings.Repeat("a", api.MaxText)} {
		scanned(t, s, word(s, 0), end(len(s)))
	}
	scanned(t, "ab cd", word("ab", 0), word("cd", 3), end(5))
	scanned(t, "a-1", word("a", 0), whole("-1", -1, 1), end(3))
	scanned(t, "a\"b\"c", word("a", 0), quoted("\"b\"", 1), word("c", 4), end(5))
	refused(t, "ab@.c", api.ErrToken, word("ab", 0))
	refused(t, "ab@é", api.ErrToken, word("ab", 0))
}

// P15.1: each sign alone, two of them side by side, and those of two bytes as long as can be.
func TestSigns(t *testing.T) {
	all := []string{"..", "::", ";", ":", ",", "(", ")", "[", "]", "{", "}", "="}
	for _, a := range all {
		scanned(t, a, sign(a, 0), end(len(a)))
		for _, b := range all {
			scanned(t, a+" "+b, sign(a, 0), sign(b, len(a)+1), end(len(a)+1+len(b)))
			if a == ":" && b[0] == ':' {
				continue
			}
			scanned(t, a+b, sign(a, 0), sign(b, len(a)), end(len(a)+len(b)))
		}
	}
	scanned(t, ":::", sign("::", 0), sign(":", 2), end(3))
	scanned(t, "::::", sign("::", 0), sign("::", 2), end(4))
	refused(t, "@.", api.ErrToken)
	refused(t, "@. .", api.ErrToken)
	refused(t, "..@.", api.ErrToken, sign("..", 0))
}

// P15.1: whole numbers, at their bounds too.
func TestNumbers(t *testing.T) {
	long := strings.Repeat("0", 1000)
	for s, n := range map[string]int64{
		"0": 0, "7": 7, "-7": -7, "-0": 0, "00": 0, "-00": 0, "007": 7, "-010": -10, long: 0, long + "12": 12, "-" + long + "12": -12,
		"999999999": 999999999, "1000000000": 1000000000, "-1000000000": -1000000000, "01000000000": 1000000000, "-0001000000000": -1000000000,
	} {
		scanned(t, s, whole(s, n, 0), end(len(s)))
	}
	for _, s := range []string{"1000000001", "-1000000001", "0001000000001", "10000000000", "9223372036854775807", "-9223372036854775808", "9223372036854775808", "18446744073709551617", "-18446744073709551615", strings.Repeat("9", 5000), "1" + strings.Repeat("0", api.MaxText-1)} {
		refused(t, "@"+s, api.ErrToken)
	}
	scanned(t, "1-2", whole("1", 1, 0), whole("-2", -2, 1), end(3))
	scanned(t, "1..5", whole("1", 1, 0), sign("..", 1), whole("5", 5, 3), end(4))
	scanned(t, "-1..-5", whole("-1", -1, 0), sign("..", 2), whole("-5", -5, 4), end(6))
	scanned(t, "1..", whole("1", 1, 0), sign("..", 1), end(3))
}

// P15.1: a - without a digit right behind it begins no token.
func TestMinus(t *testing.T) {
	for _, s := range []string{"@-", "@- 1", "@-a", "@--1", "@-+1", "@-.5", "@-\n1", "@-%\n1", "@-\"1\""} {
		refused(t, s, api.ErrToken)
	}
	refused(t, "1@-", api.ErrToken, whole("1", 1, 0))
	refused(t, "1@--1", api.ErrToken, whole("1", 1, 0))
	refused(t, "@+1", api.ErrToken)
}

// P15.1: floats are told where they begin.
func TestFloats(t *testing.T) {
	for _, s := range []string{"1.5", "-1.5", "0.0", "007.5", "1.5e3", "1.5.5", "1e5", "1E5", "-1e5", "1e-5", "1e+5", "1E-5", "1E+5", "0e0", "1e5x", "1.0..2", "1000000000.5", "-1000000000e9"} {
		refused(t, "@"+s, api.ErrMore)
		refused(t, "x @"+s+" $", api.ErrMore, word("x", 0))
	}
}

// P15.1: with a point or an e, but no digit behind, it is no float.
func TestNearlyFloats(t *testing.T) {
	refused(t, "1@.", api.ErrToken, whole("1", 1, 0))
	refused(t, "1@.a", api.ErrToken, whole("1", 1, 0))
	refused(t, "1@.-5", api.ErrToken, whole("1", 1, 0))
	refused(t, "1@.e5", api.ErrToken, whole("1", 1, 0))
	refused(t, "1 @.5", api.ErrToken, whole("1", 1, 0))
	refused(t, "@.5", api.ErrToken)
	refused(t, "1..@.5", api.ErrToken, whole("1", 1, 0), sign("..", 1))
	scanned(t, "1e", whole("1", 1, 0), word("e", 1), end(2))
	scanned(t, "1E", whole("1", 1, 0), word("E", 1), end(2))
	scanned(t, "1ex5", whole("1", 1, 0), word("ex5", 1), end(4))
	scanned(t, "1e_5", whole("1", 1, 0), word("e_5", 1), end(4))
	scanned(t, "1 e5", whole("1", 1, 0), word("e5", 2), end(4))
	scanned(t, "1f5", whole("1", 1, 0), word("f5", 1), end(3))
	refused(t, "1e@-", api.ErrToken, whole("1", 1, 0), word("e", 1))
	refused(t, "1e@+", api.ErrToken, whole("1", 1, 0), word("e", 1))
	refused(t, "1e@+-5", api.ErrToken, whole("1", 1, 0), word("e", 1))
	refused(t, "1E@--5", api.ErrToken, whole("1", 1, 0), word("E", 1))
	refused(t, "1e@+x5", api.ErrToken, whole("1", 1, 0), word("e", 1))
}

// P15.1: that a number is beyond is told ahead of its being a float.
func TestFloatsBeyond(t *testing.T) {
	for _, s := range []string{"1000000001.5", "-1000000001.5", "10000000000e5", "99999999999999999999E-5"} {
		refused(t, "@"+s, api.ErrToken)
	}
}

// P15.1: texts in quotes: any bytes but 10 and the quote.
func TestQuoted(t *testing.T) {
	var all []byte
	for c := range 256 {
		if c != '\n' && c != '"' {
			all = append(all, byte(c))
		}
	}
	for _, s := range []string{`""`, `"a"`, `" "`, `"% a"`, `"a, b;"`, `"1.5"`, `"\"`, "\"\t\r\v\"", "\"\xff\xfe\"", "\"" + string(all) + "\"", "\"" + strings.Repeat(" ", api.MaxText-2) + "\""} {
		scanned(t, s, quoted(s, 0), end(len(s)))
	}
	scanned(t, `"a""b"`, quoted(`"a"`, 0), quoted(`"b"`, 3), end(6))
	scanned(t, `"%"%"`, quoted(`"%"`, 0), end(5))
	scanned(t, `%"`+"\n"+`"`+`"`, quoted(`""`, 3), end(5))
	for _, s := range []string{`@"`, `@"a`, "@\"\n\"", "@\"a\nb\"", `@"a%`, `@"\'`, "@\"" + strings.Repeat("a", api.MaxText-1)} {
		refused(t, s, api.ErrToken)
	}
	refused(t, `""@"`, api.ErrToken, quoted(`""`, 0))
	refused(t, `a "b" @"c`+"\n", api.ErrToken, word("a", 0), quoted(`"b"`, 2))
}

// P15.1: which bytes begin a token.
func TestFirstBytes(t *testing.T) {
	for c := range 256 {
		s := string([]byte{byte(c)})
		if strings.Contains(" \t\n\r%;:,()[]{}=_0123456789", s) || c < 128 && lex.Word(s) {
			if _, e, _ := lex.Scan(s); e != api.OK {
				t.Errorf("Scan(%q): %d", s, e)
			}
			continue
		}
		refused(t, "@"+s, api.ErrToken)
		refused(t, "a;@"+s+"b", api.ErrToken, word("a", 0), sign(";", 1))
	}
}

// P15.1: the first fault from the left is told, whatever stands behind it.
func TestFirstFault(t *testing.T) {
	refused(t, "a @$ 1.5", api.ErrToken, word("a", 0))
	refused(t, "a @1.5 $", api.ErrMore, word("a", 0))
	refused(t, "a @\"b 1.5 $", api.ErrToken, word("a", 0))
	refused(t, "@1.5 99999999999", api.ErrMore)
	refused(t, "x = @99999999999 1.5;", api.ErrToken, word("x", 0), sign("=", 2))
}

// P15.1: a text of MaxText bytes, and of one more, whatever it is.
func TestLongTexts(t *testing.T) {
	for _, part := range []string{"a ", "1 ", ";;", " \n", "%%", "\"\"", "1..5", "x=1;"} {
		s := strings.Repeat(part, api.MaxText/len(part))
		l, e, at := lex.Scan(s)
		if len(s) != api.MaxText || e != api.OK || at != 0 || l[len(l)-1] != end(api.MaxText) {
			t.Errorf("Scan of %q, %d bytes: %d, %d", part, len(s), e, at)
		}
	}
	for _, s := range []string{strings.Repeat(" ", api.MaxText+1), strings.Repeat("$", api.MaxText+1), "1.5" + strings.Repeat("a", api.MaxText), strings.Repeat("a;", api.MaxText), "\"" + strings.Repeat("\n", api.MaxText)} {
		l, e, at := lex.Scan(s)
		if e != api.ErrSize || at != 0 || len(l) != 0 {
			t.Errorf("Scan of %q, %d bytes: %v, %d, %d", short(s), len(s), l, e, at)
		}
		for token := range lex.Each(s) {
			t.Errorf("Each of %q, %d bytes: %v", short(s), len(s), token)
		}
	}
}

// P15.1: Each can be left at each place, and gone through again.
func TestEachLeft(t *testing.T) {
	for _, s := range append(texts(), "a b $", "a 1 \"", "a; 1.5") {
		each := lex.Each(s)
		all := slices.Collect(each)
		for stop := range all {
			var got []api.Token
			for token := range each {
				if len(got) == stop {
					break
				}
				got = append(got, token)
			}
			if !slices.Equal(got, all[:stop]) {
				t.Errorf("Each(%q), left at %d: %v", s, stop, got)
			}
		}
	}
}

// P1: what whoever goes through the tokens throws is not caught on the way.
func TestEachThrown(t *testing.T) {
	defer func() {
		if thrown := recover(); thrown != "mine" {
			t.Error("thrown", thrown)
		}
	}()
	for range lex.Each("a b $") {
		panic("mine")
	}
	t.Error("it was caught")
}

// P15.2: a token as text: of a whole number N's digits, of any other kind its text.
func TestText(t *testing.T) {
	for _, c := range []struct {
		token api.Token
		want  string
	}{
		{whole("007", 7, 3), "7"},
		{whole("-0", 0, 0), "0"},
		{whole("-010", -10, 0), "-10"},
		{whole("", 5, 0), "5"},
		{whole("x", math.MinInt64, 0), "-9223372036854775808"},
		{whole("x", math.MaxInt64, -1), "9223372036854775807"},
		{word("var", 9), "var"},
		{quoted("\"a b\"", 9), "\"a b\""},
		{sign("..", 9), ".."},
		{end(9), ""},
		{api.Token{Kind: api.TWord, Text: "a", N: 7}, "a"},
		{api.Token{Kind: api.TEnd, Text: "odd", N: 7}, "odd"},
		{api.Token{}, ""},
		{api.Token{Kind: 77, Text: "b", N: 1}, "b"},
		{api.Token{Kind: -1, Text: "c", N: 1}, "c"},
	} {
		if got := lex.Text(c.token); got != c.want {
			t.Errorf("Text(%v) = %q; want %q", c.token, got, c.want)
		}
	}
}

// P15.2: which texts are words, as a whole; what the grammar makes of a word plays no part.
func TestWord(t *testing.T) {
	for _, s := range []string{"a", "Z", "_", "__", "a1", "_9", "a_1", "var", "true", "float", strings.Repeat("x", 2*api.MaxText)} {
		if !lex.Word(s) {
			t.Errorf("Word(%q)", short(s))
		}
	}
	for _, s := range []string{"", " ", "1", "1a", "9_", "a ", " a", "a b", "a\n", "a%", "a-b", "a.b", "-a", "é", "aé", "a\x00", "\xff", "a\xff", "\"a\"", "..", ";", "a;", "@", "`", "{", "[", "^", "/", ":", "a/", "a:", "a@", "a`", "a{", "a[", strings.Repeat("x", api.MaxText) + " "} {
		if lex.Word(s) {
			t.Errorf("Word(%q)", short(s))
		}
	}
}

// P15.2: of single bytes: just letters and _ are words, and behind a letter digits, too.
func TestWordOfBytes(t *testing.T) {
	const letters = "abcdefghijklmnopqrstuvwxyzABCDEFGHIJKLMNOPQRSTUVWXYZ_"
	for c := range 256 {
		s := string([]byte{byte(c)})
		if lex.Word(s) != strings.Contains(letters, s) || lex.Word("x"+s) != strings.Contains(letters+"0123456789", s) {
			t.Errorf("Word of %q", s)
		}
	}
}

// Rule 4: what is written into an answer is seen by no later one.
func TestAnswersAreNew(t *testing.T) {
	const s = "a b"
	l, _, _ := lex.Scan(s)
	l[0] = end(99)
	_ = append(l[:1], end(98))
	scanned(t, s, word("a", 0), word("b", 2), end(3))
}
