package text

import (
	"strings"
)

// The kinds of tokens.
const (
	end = iota // what follows the last token; its text is empty
	number
	lower // a word that begins with a lowercase letter
	upper // a word that begins with an uppercase letter
	sign
)

type token struct {
	kind int
	text string
}

// tokens returns an iterator over the tokens of s: each call takes one more.
func tokens(s string) func() token {
	var last token
	return func() token {
		s = strings.TrimLeft(s, " \n")
		last = first(s, last)
		s = s[len(last.text):]
		return last
	}
}

// first returns the token at the beginning of s, which follows the token before.
func first(s string, before token) token {
	if s == "" {
		return token{}
	}
	switch c := s[0]; {
	case isLower(c):
		return token{lower, s[:wordLength(s)]}
	case isUpper(c):
		return token{upper, s[:wordLength(s)]}
	case isDigit(c):
		return token{number, s[:numberLength(s)]}
	case c == '-' && !endsTerm(before) && numberLength(s[1:]) > 0 && s[1] != '0':
		return token{number, s[:1+numberLength(s[1:])]}
	}
	return token{sign, s[:signLength(s)]}
}

// endsTerm tells the two uses of a minus apart: it is an operator only behind a term. (Behind a brace it may be either.)
func endsTerm(t token) bool {
	return t.kind == number || t.kind == lower || t.kind == upper || t.text == ")"
}

func wordLength(s string) int {
	n := 1
	for n < len(s) && (isLower(s[n]) || isDigit(s[n])) {
		n++
	}
	return n
}

// numberLength is 1 for every number that begins with a zero: there are no leading zeros.
func numberLength(s string) int {
	n := 0
	for n < len(s) && isDigit(s[n]) && (n == 0 || s[0] != '0') {
		n++
	}
	return n
}

func signLength(s string) int {
	if strings.HasPrefix(s, "=>") || strings.HasPrefix(s, "==") {
		return 2
	}
	if strings.IndexByte("{}()~,:;.=+-*/%<", s[0]) < 0 {
		malformed()
	}
	return 1
}

func isLower(c byte) bool {
	return 'a' <= c && c <= 'z'
}

func isUpper(c byte) bool {
	return 'A' <= c && c <= 'Z'
}

func isDigit(c byte) bool {
	return '0' <= c && c <= '9'
}
