package text

import (
	"strings"

	"chiasmus/letters"
)

// The kinds of tokens.
const (
	end = iota // what follows the last token; its text is empty
	number
	lower // a word that begins with a lowercase letter
	upper // a word that begins with an uppercase letter
	sign
)

type token struct {
	kind int
	text string
}

// tokens returns an iterator over the tokens of s: each call takes one more.
func tokens(s string) func() token {
	var last token
	return func() token {
		s = strings.TrimLeft(s, " \n")
		last = first(s, last)
		s = s[len(last.text):]
		return last
	}
}

// first returns the token at the beginning of s, which follows the token before.
func first(s string, before token) token {
	if s == "" {
		return token{}
	}
	switch c := s[0]; {
	case letters.IsLower(c):
		return token{lower, s[:letters.Word(s)]}
	case letters.IsUpper(c):
		return token{upper, s[:letters.Word(s)]}
	case letters.IsDigit(c):
		return token{number, s[:letters.Number(s)]}
	case c == '-' && !endsTerm(before) && letters.Number(s[1:]) > 0 && s[1] != '0':
		return token{number, s[:1+letters.Number(s[1:])]}
	}
	return token{sign, s[:signLength(s)]}
}

// endsTerm tells the two uses of a minus apart: it is an operator only behind a term. (Behind a brace it may be either.)
func endsTerm(t token) bool {
	return t.kind == number || t.kind == lower || t.kind == upper || t.text == ")"
}

func signLength(s string) int {
	if strings.HasPrefix(s, "=>") || strings.HasPrefix(s, "==") {
		return 2
	}
	if strings.IndexByte("{}()~,:;.=+-*/%<", s[0]) < 0 {
		malformed()
	}
	return 1
}
