package lex

import (
	"strconv"
	"strings"

	"jigsaw/api"
)

// signs is the signs of one byte.
const signs = ";:,()[]{}="

// afterBlanks is the place behind the blanks and comments that stand at a place.
func afterBlanks(s string, at int) int {
blanks:
	for at < len(s) {
		switch s[at] {
		case ' ', '\t', '\n', '\r':
			at++
		case '%':
			at = lineEnd(s, at)
		default:
			break blanks
		}
	}
	return at
}

// lineEnd is the place of the next byte 10, or the end.
func lineEnd(s string, at int) int {
	n := strings.IndexByte(s[at:], '\n')
	if n < 0 {
		return len(s)
	}
	return at + n
}

// next is the token that begins at a place; where none does, that is thrown.
func next(s string, at int) api.Token {
	if at == len(s) {
		return api.Token{Kind: api.TEnd, At: at}
	}
	switch c := s[at]; {
	case letter(c):
		return api.Token{Kind: api.TWord, Text: s[at:wordEnd(s, at)], At: at}
	case c == '-' || digit(c):
		return number(s, at)
	case c == '"':
		return quoted(s, at)
	}
	return sign(s, at)
}

// wordEnd is the place behind the letters and digits that stand at a place.
func wordEnd(s string, at int) int {
word:
	for at < len(s) {
		switch c := s[at]; {
		case letter(c), digit(c):
			at++
		default:
			break word
		}
	}
	return at
}

// number is the whole number at a place. That it is beyond is told ahead of its being a float.
func number(s string, at int) api.Token {
	end := at + 1
	for end < len(s) && digit(s[end]) {
		end++
	}
	// A - alone has no digits, and so is no number.
	n, err := strconv.ParseInt(s[at:end], 10, 64)
	if err != nil || n < -api.Coef || n > api.Coef {
		panic(fault{e: api.ErrToken, at: at})
	}
	if goesOn(s[end:]) {
		panic(fault{e: api.ErrMore, at: at})
	}
	return api.Token{Kind: api.TInt, Text: s[at:end], N: n, At: at}
}

// goesOn: is a number a float by what stands right behind its digits?
func goesOn(rest string) bool {
	if rest == "" {
		return false
	}
	switch rest[0] {
	case '.':
		return beginsWithDigit(rest[1:])
	case 'e', 'E':
		return beginsWithDigit(rest[1:]) || len(rest) > 1 && (rest[1] == '-' || rest[1] == '+') && beginsWithDigit(rest[2:])
	}
	return false
}

// quoted is the text in quotes at a place.
func quoted(s string, at int) api.Token {
	n := strings.IndexAny(s[at+1:], "\"\n")
	if n < 0 || s[at+1+n] == '\n' {
		panic(fault{e: api.ErrToken, at: at})
	}
	return api.Token{Kind: api.TString, Text: s[at : at+n+2], At: at}
}

// sign is the sign at a place: of two bytes, if it can be.
func sign(s string, at int) api.Token {
	rest := s[at:]
	switch {
	case strings.HasPrefix(rest, ".."), strings.HasPrefix(rest, "::"):
		return api.Token{Kind: api.TSign, Text: rest[:2], At: at}
	case strings.IndexByte(signs, rest[0]) >= 0:
		return api.Token{Kind: api.TSign, Text: rest[:1], At: at}
	}
	panic(fault{e: api.ErrToken, at: at})
}

func letter(c byte) bool {
	return 'a' <= c && c <= 'z' || 'A' <= c && c <= 'Z' || c == '_'
}

func digit(c byte) bool {
	return '0' <= c && c <= '9'
}

func beginsWithDigit(s string) bool {
	return s != "" && digit(s[0])
}
