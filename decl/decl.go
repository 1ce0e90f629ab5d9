// Package decl is layer 1, declarations of data and codata types: see shared/doc/01-decl.md.
package decl

import (
	"chiasmus/api"
)

// Check returns OK if l is valid, and ErrDecl otherwise.
func Check(l []api.Decl) api.Errno {
	if !valid(l) {
		return api.ErrDecl
	}
	return api.OK
}

// Source reports whether l are declarations of the source language.
func Source(l []api.Decl) (bool, api.Errno) {
	if !valid(l) {
		return false, api.ErrDecl
	}
	for _, d := range l {
		if !isSource(d) {
			return false, api.OK
		}
	}
	return true, api.OK
}

// Positive reports whether the type t is positive: the integers, or a data type.
func Positive(l []api.Decl, t int) (bool, api.Errno) {
	if !valid(l) {
		return false, api.ErrDecl
	}
	if t == 0 {
		return true, api.OK
	}
	d, ok := declared(l, t)
	if !ok {
		return false, api.ErrArg
	}
	return !d.Codata, api.OK
}

// Result returns the result type of destructor n of the codata type t.
func Result(l []api.Decl, t, n int) (int, api.Errno) {
	if !valid(l) {
		return 0, api.ErrDecl
	}
	d, ok := declared(l, t)
	if !ok || !d.Codata || n < 0 || n >= len(d.Xtors) {
		return 0, api.ErrArg
	}
	args := d.Xtors[n].Args
	if !endsInOnlyConsumer(args) {
		return 0, api.ErrArg
	}
	return args[len(args)-1].Type, api.OK
}

// String returns the string of l, a line for each declaration.
func String(l []api.Decl) (string, api.Errno) {
	if !valid(l) {
		return "", api.ErrDecl
	}
	return text(l), api.OK
}

// Find returns the type and the number of the xtor with the given name.
func Find(l []api.Decl, xtor string) (t, n int, e api.Errno) {
	if !valid(l) {
		return 0, 0, api.ErrDecl
	}
	for i, d := range l {
		for j, x := range d.Xtors {
			if x.Name == xtor {
				return i + 1, j, api.OK
			}
		}
	}
	return 0, 0, api.ErrArg
}

// Small reports, for each declaration, whether it is a data type with a value of finite size that consists of constructors and integers only.
func Small(l []api.Decl) ([]bool, api.Errno) {
	if !valid(l) {
		return nil, api.ErrDecl
	}
	return small(l), api.OK
}

// declared returns the declaration of the type t, if there is one: the integers have none.
func declared(l []api.Decl, t int) (api.Decl, bool) {
	if t < 1 || t > len(l) {
		return api.Decl{}, false
	}
	return l[t-1], true
}
