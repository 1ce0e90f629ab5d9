// Package names tells which strings are names. Every layer that reads names shares it, so that all of them agree.
package names

import "chiasmus/api"

// Plain reports whether s is the name of a declaration, a function, a variable or a label.
func Plain(s string) bool {
	return s != "" && isLower(s[0]) && fits(s) && !reserved(s)
}

// Xtor reports whether s is the name of a constructor or a destructor.
func Xtor(s string) bool {
	return s != "" && 'A' <= s[0] && s[0] <= 'Z' && fits(s)
}

// fits leaves the first byte to its callers, since only that byte tells the two kinds of names apart.
func fits(s string) bool {
	if len(s) > api.MaxName {
		return false
	}
	for i := 1; i < len(s); i++ {
		if !isLower(s[i]) && !isDigit(s[i]) {
			return false
		}
	}
	return true
}

func isLower(b byte) bool {
	return 'a' <= b && b <= 'z'
}

func isDigit(b byte) bool {
	return '0' <= b && b <= '9'
}

func reserved(s string) bool {
	switch s {
	case "data", "codata", "fun", "int", "ifz", "case", "cocase", "let", "emit", "label", "goto":
		return true
	}
	return false
}
