package sample

import (
	"chiasmus/api"
	"chiasmus/heads"
)

// least has, for each type of p, a function that makes a term of the type without free names, or nil if none is known. A term of a type is made of terms of types that are known before.
func least(p api.Prog) []func() api.Term {
	known := make([]func() api.Term, len(p.Decls)+1)
	known[0] = func() api.Term { return api.Term{Op: api.TInt, N: 1} }
	for more := true; more; {
		more = false
		for typ, f := range known {
			if f == nil {
				known[typ] = simplest(p, known, typ)
				more = more || known[typ] != nil
			}
		}
	}
	return known
}

// simplest prefers a constructor or an object to a call, since a call may not end.
func simplest(p api.Prog, known []func() api.Term, typ int) func() api.Term {
	d := p.Decls[typ-1]
	if d.Codata {
		if made, ok := knownOf(known, results(d)); ok {
			return func() api.Term { return object(d, typ, made) }
		}
	}
	for n, x := range d.Xtors {
		if made, ok := knownOf(known, heads.Producers(x)); ok && !d.Codata {
			return func() api.Term { return api.Term{Op: api.TCon, Type: typ, N: n, Args: all(made)} }
		}
	}
	for n, f := range p.Funs {
		if made, ok := knownOf(known, heads.Params(f)); ok && f.Result == typ {
			return func() api.Term { return api.Term{Op: api.TCall, N: n, Args: all(made)} }
		}
	}
	return nil
}

// knownOf reports whether all of the types are known.
func knownOf(known []func() api.Term, types []int) (made []func() api.Term, ok bool) {
	for _, typ := range types {
		if known[typ] == nil {
			return nil, false
		}
		made = append(made, known[typ])
	}
	return made, true
}

func all(made []func() api.Term) []api.Term {
	var out []api.Term
	for _, f := range made {
		out = append(out, f())
	}
	return out
}

func object(d api.Decl, typ int, made []func() api.Term) api.Term {
	out := api.Term{Op: api.TCocase, Type: typ}
	for n, x := range d.Xtors {
		l := names()[:len(heads.Producers(x))]
		out.Clauses = append(out.Clauses, api.Clause{Names: l, Body: made[n]()})
	}
	return out
}

// results returns the result types of the destructors.
func results(d api.Decl) []int {
	var types []int
	for _, x := range d.Xtors {
		types = append(types, x.Args[len(x.Args)-1].Type)
	}
	return types
}
