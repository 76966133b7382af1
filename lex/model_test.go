package lex_test

import (
	"math/big"
	"math/rand"
	"regexp"
	"slices"
	"strings"
	"testing"

	"jigsaw/api"
	"jigsaw/lex"
)

// model is the chapter's table of tokens once more, by patterns.
type model struct {
	blanks, word, number, float, text, sign *regexp.Regexp
}

func newModel() model {
	return model{
		blanks: regexp.MustCompile(`^(?:[ \t\n\r]|%[^\n]*)*`),
		word:   regexp.MustCompile(`^[a-zA-Z_][a-zA-Z0-9_]*`),
		number: regexp.MustCompile(`^-?[0-9]+`),
		float:  regexp.MustCompile(`^-?[0-9]+(?:\.[0-9]|[eE][-+]?[0-9])`),
		text:   regexp.MustCompile(`^"[^"\n]*"`),
		sign:   regexp.MustCompile(`^(?:\.\.|::|[;:,()\[\]{}=])`),
	}
}

// next is the token at the beginning of rest, or an error.
func (m model) next(rest string) (api.Token, api.Errno) {
	if s := m.word.FindString(rest); s != "" {
		return word(s, 0), api.OK
	}
	if s := m.text.FindString(rest); s != "" {
		return quoted(s, 0), api.OK
	}
	if s := m.sign.FindString(rest); s != "" {
		return sign(s, 0), api.OK
	}
	s := m.number.FindString(rest)
	n, ok := new(big.Int).SetString(s, 10)
	switch {
	case !ok || n.CmpAbs(big.NewInt(1e9)) > 0:
		return api.Token{}, api.ErrToken
	case m.float.MatchString(rest):
		return api.Token{}, api.ErrMore
	}
	return whole(s, n.Int64(), 0), api.OK
}

// scan is what Scan is to answer, with the tokens ahead of a fault.
func (m model) scan(s string) ([]api.Token, api.Errno, int) {
	var out []api.Token
	for at := 0; ; {
		at += len(m.blanks.FindString(s[at:]))
		if at == len(s) {
			return append(out, end(at)), api.OK, 0
		}
		t, e := m.next(s[at:])
		if e != api.OK {
			return out, e, at
		}
		t.At = at
		out = append(out, t)
		at += len(t.Text)
	}
}

// checked holds Scan and Each of a text against the model.
func (m model) checked(t *testing.T, s string) {
	t.Helper()
	want, e, at := m.scan(s)
	if got := slices.Collect(lex.Each(s)); !slices.Equal(got, want) {
		t.Fatalf("Each(%q) = %v; want %v", s, got, want)
	}
	if e != api.OK {
		want = nil
	}
	got, gotErr, gotAt := lex.Scan(s)
	if gotErr != e || gotAt != at || !slices.Equal(got, want) {
		t.Fatalf("Scan(%q) = %v, %d, %d; want %v, %d, %d", s, got, gotErr, gotAt, want, e, at)
	}
}

// P15.1: of all texts of at most 4 pieces.
func TestAllShortTexts(t *testing.T) {
	pieces := []string{"a", "e", "0", "1", "1000000000", "-", "+", ".", ":", "\"", "%", "\n", " ", ",", "$", "\xff"}
	m := newModel()
	var all func(s string, left int)
	all = func(s string, left int) {
		m.checked(t, s)
		if left == 0 {
			return
		}
		for _, p := range pieces {
			all(s+p, left-1)
		}
	}
	all("", 4)
}

// anyText is a text of some pieces, most of which can stand in a program.
func anyText(r *rand.Rand, pieces []string, most int) string {
	var b strings.Builder
	for range r.Intn(most) {
		b.WriteString(pieces[r.Intn(len(pieces))])
	}
	return b.String()
}

// P15.1, P1: of longer texts of any kind.
func TestAnyTexts(t *testing.T) {
	r := rand.New(rand.NewSource(15))
	pieces := []string{"a", "E", "_", "x1", "var", "12", "-", "-3", "007", "..", "::", ":", ";", ",", "(", ")", "[", "]", "{", "}", "=", " ", "\t", "\r", "\n", "% c\n", "\"b\"", "\"%\"", "999999999", "1..5"}
	odd := append(slices.Clone(pieces), "1.5", "2e+7", ".", "\"", "%", "$", "\x00", "é", "1000000001")
	m := newModel()
	for range 20000 {
		m.checked(t, anyText(r, pieces, 20))
		m.checked(t, anyText(r, odd, 12))
	}
	for range 5000 {
		b := make([]byte, r.Intn(12))
		r.Read(b)
		m.checked(t, string(b))
	}
}

// follows asks of a text without a fault for P15.3 to P15.5.
func follows(t *testing.T, s string) {
	t.Helper()
	l, e, _ := lex.Scan(s)
	if e != api.OK {
		return
	}
	var joined []string
	behind := 0
	for i, token := range l {
		joined = append(joined, token.Text)
		if token.At < behind || !strings.HasPrefix(s[token.At:], token.Text) {
			t.Fatalf("a token of %q is not at its place: %v", s, token)
		}
		behind = token.At + len(token.Text)
		if i == len(l)-1 {
			continue
		}
		want := append(slices.Clone(l[:i+1]), end(behind))
		if got, e, _ := lex.Scan(s[:behind]); e != api.OK || !slices.Equal(got, want) {
			t.Fatalf("the beginning %q has %v, %d", s[:behind], got, e)
		}
	}
	again, e, _ := lex.Scan(strings.Join(joined, " "))
	if e != api.OK || !slices.EqualFunc(l, again, sameButPlace) {
		t.Fatalf("the tokens of %q, joined: %v, %d", s, again, e)
	}
}

func sameButPlace(a, b api.Token) bool {
	a.At, b.At = 0, 0
	return a == b
}

// P15.3, P15.4, P15.5: tokens joined by blanks, their places, and the beginnings of a text.
func TestWhatFollows(t *testing.T) {
	for _, s := range texts() {
		if _, e, at := lex.Scan(s); e != api.OK {
			t.Errorf("Scan(%q): %d, %d", s, e, at)
		}
		follows(t, s)
	}
	r := rand.New(rand.NewSource(16))
	pieces := []string{"a", "e", "1", "-2", "007", "-0", "..", "::", ":", "=", "[", "]", " ", "\n", "%\n", "\"b c\"", ";"}
	for range 20000 {
		follows(t, anyText(r, pieces, 15))
	}
}

// P1, P15.1, P15.3 to P15.5: of any text.
func FuzzScan(f *testing.F) {
	for _, s := range texts() {
		f.Add(s)
	}
	for _, s := range []string{"1.5", "-", "\"a", "$", "10000000000", "1e+", "1...5"} {
		f.Add(s)
	}
	m := newModel()
	f.Fuzz(func(t *testing.T, s string) {
		if len(s) > api.MaxText {
			return
		}
		m.checked(t, s)
		follows(t, s)
	})
}
