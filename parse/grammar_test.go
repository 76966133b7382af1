package parse_test

import (
	"math/rand"
	"slices"
	"strings"
	"testing"

	"jigsaw/api"
	"jigsaw/lex"
	"jigsaw/parse"
)

// rules is the chapter's grammar once more: a rule a line. Words with a capital letter are kinds of tokens; One is the number 1.
const rules = `
program decls items goal End
decls
decls decls decl
items
items items item
decl type : Name anns ;
decl type : Name anns = expr ;
type basic
type var basic
type array [ One .. Int ] of basic
type array [ One .. Int ] of var basic
basic bool
basic int
basic dom
basic set of int
basic set of dom
dom Int .. Int
dom { }
dom { ints }
ints Int
ints ints , Int
item constraint Name ( ) anns ;
item constraint Name ( exprs ) anns ;
goal solve anns satisfy ;
goal solve anns minimize expr ;
goal solve anns maximize expr ;
anns
anns anns :: expr
exprs expr
exprs exprs , expr
expr true
expr false
expr Int
expr Int .. Int
expr { }
expr { ints }
expr Name
expr Name [ Int ]
expr Name ( )
expr Name ( exprs )
expr [ ]
expr [ exprs ]
expr String`

// state is a rule, as far as it has been read, from a place on.
type state struct{ rule, dot, from int }

// chart reads tokens by all rules at once: its sets tell what each token may be, and what may follow.
type chart struct {
	rules [][]string
	sets  [][]state
}

func newChart() *chart {
	c := &chart{sets: make([][]state, 1)}
	for line := range strings.SplitSeq(strings.TrimSpace(rules), "\n") {
		c.rules = append(c.rules, strings.Fields(line))
	}
	c.add(0, state{})
	c.close(0)
	return c
}

func (c *chart) add(set int, s state) {
	if !slices.Contains(c.sets[set], s) {
		c.sets[set] = append(c.sets[set], s)
	}
}

// awaits is what a state waits for: a rule's name, a token; nothing, if it has been read.
func (c *chart) awaits(s state) string {
	if rule := c.rules[s.rule]; s.dot+1 < len(rule) {
		return rule[s.dot+1]
	}
	return ""
}

// close adds to the last set what begins there and what is whole there, until nothing changes.
func (c *chart) close(set int) {
	for size := -1; size != len(c.sets[set]); {
		size = len(c.sets[set])
		for i := 0; i < len(c.sets[set]); i++ {
			s := c.sets[set][i]
			await := c.awaits(s)
			for rule, parts := range c.rules {
				if parts[0] == await {
					c.add(set, state{rule: rule, from: set})
				}
			}
			if await != "" {
				continue
			}
			for _, before := range c.sets[s.from] {
				if c.awaits(before) == c.rules[s.rule][0] {
					c.add(set, state{before.rule, before.dot + 1, before.from})
				}
			}
		}
	}
}

// isA: is a token one of that symbol of the grammar?
func isA(t api.Token, symbol string) bool {
	switch symbol {
	case "Int":
		return t.Kind == api.TInt
	case "One":
		return t.Kind == api.TInt && t.N == 1
	case "String":
		return t.Kind == api.TString
	case "End":
		return t.Kind == api.TEnd
	case "Name":
		return t.Kind == api.TWord && !slices.Contains(reserved(), t.Text)
	}
	return t.Text == symbol
}

// take reads a token; false, if it can not stand there.
func (c *chart) take(t api.Token) bool {
	last := len(c.sets) - 1
	c.sets = append(c.sets, nil)
	for _, s := range c.sets[last] {
		if await := c.awaits(s); await != "" && isA(t, await) {
			c.add(last+1, state{s.rule, s.dot + 1, s.from})
		}
	}
	c.close(last + 1)
	return len(c.sets[last+1]) > 0
}

// mayCome: could that word (or, if it is empty, the end) have stood where the last token stood?
func (c *chart) mayCome(word string) bool {
	ahead := chart{rules: c.rules, sets: slices.Clone(c.sets[:len(c.sets)-1])}
	if word == "" {
		return ahead.take(api.Token{Kind: api.TEnd})
	}
	return ahead.take(api.Token{Kind: api.TWord, Text: word})
}

// fault is the first token at fault by the grammar, with its error.
func fault(tokens []api.Token) (api.Errno, int) {
	c := newChart()
	for _, t := range tokens {
		if c.take(t) {
			continue
		}
		// A basic type may be int, and nothing else may; wherever a declaration could stand, the solve could, too.
		if t.Text == "float" && c.mayCome("int") || t.Text == "predicate" && (c.mayCome("solve") || c.mayCome("")) {
			return api.ErrMore, t.At
		}
		return api.ErrParse, t.At
	}
	return api.OK, 0
}

// againstGrammar holds what Parse answers of a text against the grammar.
func againstGrammar(t *testing.T, s string) api.Errno {
	t.Helper()
	tokens, e, _ := lex.Scan(s)
	if e != api.OK {
		t.Fatalf("Scan(%q): %d", s, e)
	}
	want, place := fault(tokens)
	if _, e, at := parse.Parse(s); e != want || at != place {
		t.Fatalf("Parse(%q): %d, %d; want %d, %d", s, e, at, want, place)
	}
	return want
}

// vocabulary is tokens that can stand somewhere, or nowhere; no number of them is beyond a limit.
func vocabulary() []string {
	return append(reserved(), "x", "y", "f", "0", "1", "2", `"a"`, ";", ":", "::", "..", ",", "(", ")", "[", "]", "{", "}", "=", "int", "var", "::", "constraint", "float", "float", "predicate", "predicate")
}

// P16.1: of programs in which some tokens are left out, put in or changed: the grammar tells the first token that can not stand.
func TestNearlyPrograms(t *testing.T) {
	random := rand.New(rand.NewSource(16))
	words := vocabulary()
	found := map[api.Errno]int{}
	for range 6000 {
		tokens, _, _ := lex.Scan(strings.ReplaceAll(anyRightText(t, random), "-", ""))
		var parts []string
		for _, x := range tokens[:len(tokens)-1] {
			parts = append(parts, x.Text)
		}
		for range random.Intn(3) {
			i, w := random.Intn(len(parts)+1), words[random.Intn(len(words))]
			j := min(i+random.Intn(2), len(parts))
			if random.Intn(3) > 0 {
				parts = slices.Replace(parts, i, j, w)
			} else {
				parts = slices.Delete(parts, i, j)
			}
		}
		found[againstGrammar(t, strings.Join(parts, " "))]++
	}
	if found[api.OK] < 500 || found[api.ErrParse] < 500 || found[api.ErrMore] < 20 {
		t.Error("too few of a kind", found)
	}
}

// P16.1: at each place of a program each token.
func TestEachTokenAtEachPlace(t *testing.T) {
	for _, s := range []string{
		"var set of {1,2}: x :: f(1) = [x];", "array [1..2] of var 1..2: a :: b :: \"c\" = {1};", "constraint c(x[1], f()) :: a;", "solve :: a([]) minimize x;", "solve satisfy;",
	} {
		tokens, _, _ := lex.Scan(s)
		for i := range tokens {
			ahead, behind := s[:tokens[i].At], s[tokens[i].At:]
			for _, w := range vocabulary() {
				againstGrammar(t, ahead+" "+w+" "+behind)
				againstGrammar(t, ahead+" "+w+" "+strings.TrimPrefix(behind, tokens[i].Text))
			}
		}
	}
}
