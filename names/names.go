// Package names tells which strings are names, and what types are called. Every layer that reads or writes names shares it, so that all of them agree.
package names

import (
	"chiasmus/api"
	"chiasmus/letters"
)

// Plain reports whether s is the name of a declaration, a function, a variable or a label.
func Plain(s string) bool {
	return s != "" && letters.IsLower(s[0]) && fits(s) && !reserved(s)
}

// Xtor reports whether s is the name of a constructor or a destructor.
func Xtor(s string) bool {
	return s != "" && letters.IsUpper(s[0]) && fits(s)
}

// Type returns the name of the type t, which must be one of the types of l.
func Type(l []api.Decl, t int) string {
	if t == 0 {
		return "int"
	}
	return l[t-1].Name
}

// fits leaves the kind of the first letter to its callers, since only that letter tells the two kinds of names apart.
func fits(s string) bool {
	return len(s) <= api.MaxName && letters.Word(s) == len(s)
}

func reserved(s string) bool {
	switch s {
	case "data", "codata", "fun", "int", "ifz", "case", "cocase", "let", "emit", "label", "goto":
		return true
	}
	return false
}
