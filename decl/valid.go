package decl

import (
	"chiasmus/api"
	"chiasmus/names"
)

// nameSet is a set of names that must be distinct.
type nameSet map[string]bool

// add reports whether the name was new.
func (s nameSet) add(name string) bool {
	if s[name] {
		return false
	}
	s[name] = true
	return true
}

func valid(l []api.Decl) bool {
	if len(l) > api.MaxDecls {
		return false
	}
	// One set serves both kinds of names: only those of xtors begin with an uppercase letter.
	taken := nameSet{}
	for _, d := range l {
		if !validDecl(d, len(l), taken) {
			return false
		}
	}
	return true
}

func validDecl(d api.Decl, types int, taken nameSet) bool {
	if !names.Plain(d.Name) || !taken.add(d.Name) {
		return false
	}
	if len(d.Xtors) < 1 || len(d.Xtors) > api.MaxXtors {
		return false
	}
	for _, x := range d.Xtors {
		if !validXtor(x, types, taken) {
			return false
		}
	}
	return true
}

func validXtor(x api.Xtor, types int, taken nameSet) bool {
	if !names.Xtor(x.Name) || !taken.add(x.Name) || len(x.Args) > api.MaxArgs {
		return false
	}
	for _, a := range x.Args {
		if a.Type < 0 || a.Type > types {
			return false
		}
	}
	return true
}

// isSource asks for the arguments that the source language can supply: it has no terms that are consumers, except the context of an observation.
func isSource(d api.Decl) bool {
	for _, x := range d.Xtors {
		if d.Codata && !endsInOnlyConsumer(x.Args) || !d.Codata && hasConsumer(x.Args) {
			return false
		}
	}
	return true
}

func hasConsumer(args []api.Arg) bool {
	for _, a := range args {
		if a.Co {
			return true
		}
	}
	return false
}

func endsInOnlyConsumer(args []api.Arg) bool {
	last := len(args) - 1
	return last >= 0 && args[last].Co && !hasConsumer(args[:last])
}
