package term

import (
	"chiasmus/api"
	"chiasmus/decl"
	"chiasmus/names"
)

func validProg(p api.Prog) bool {
	// Source is false for invalid declarations, too.
	if source, _ := decl.Source(p.Decls); !source {
		return false
	}
	if len(p.Funs) < 1 || len(p.Funs) > api.MaxFuns || !distinct(funNames(p.Funs)) {
		return false
	}
	if !isMain(p.Funs[0]) || !validSize(p.Funs) {
		return false
	}
	for _, f := range p.Funs {
		if !validFun(p, f) {
			return false
		}
	}
	return true
}

// validSize is asked before the bodies are looked at: what follows may take all of them to be small.
func validSize(l []api.Fun) bool {
	total := 0
	for _, f := range l {
		n, ok := size(f.Body)
		if !ok {
			return false
		}
		total += n
	}
	return total <= api.MaxNodes
}

func validFun(p api.Prog, f api.Fun) bool {
	if len(f.Params) > api.MaxArgs || !isType(p, f.Result) {
		return false
	}
	for _, a := range f.Params {
		if !isType(p, a.Type) {
			return false
		}
	}
	params := paramNames(f.Params)
	return distinct(params) && validTerm(p, newScope(params, nil), f.Body)
}

// validTerm takes t to be of a permitted size.
func validTerm(p api.Prog, s scope, t api.Term) bool {
	if !fits(p, t) || !refersInto(s, t) {
		return false
	}
	for b, part := range parts(t) {
		if !distinct(b.names) || !validTerm(p, s.inside(b), part) {
			return false
		}
	}
	return true
}

func refersInto(s scope, t api.Term) bool {
	switch t.Op {
	case api.TVar:
		return s.hasVar(t.Name)
	case api.TGoto:
		return s.hasLabel(t.Name)
	}
	return true
}

// isMain reports whether main can be run: its inputs and its result are integers.
func isMain(f api.Fun) bool {
	for _, a := range f.Params {
		if a.Type != 0 {
			return false
		}
	}
	return f.Result == 0
}

func isType(p api.Prog, t int) bool {
	return 0 <= t && t <= len(p.Decls)
}

// distinct reports whether all of l are valid names, none of which occurs twice.
func distinct(l []string) bool {
	seen := map[string]bool{}
	for _, s := range l {
		if !names.Plain(s) || seen[s] {
			return false
		}
		seen[s] = true
	}
	return true
}

func funNames(l []api.Fun) []string {
	out := make([]string, len(l))
	for i, f := range l {
		out[i] = f.Name
	}
	return out
}

func paramNames(l []api.Param) []string {
	out := make([]string, len(l))
	for i, a := range l {
		out[i] = a.Name
	}
	return out
}
