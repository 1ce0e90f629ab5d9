package sample

import "chiasmus/api"

// Maker makes valid terms of a program: all fields are as they must be, and all names are in scope.
type Maker struct {
	*Numbers
	prog  api.Prog
	odd   int
	least []func() api.Term
}

// NewMaker returns a maker of terms of p, of which only the declarations and the heads of the functions count. Without oddity each term has the type that was asked for; with oddity n, one subterm in n is made for any type. There must be a term of each type without free names.
func NewMaker(p api.Prog, s *Numbers, oddity int) Maker {
	return Maker{s, p, oddity, least(p)}
}

// Prog returns the program with other bodies, of which each has a depth of at most about the given one. It is valid if it is not too large.
func (m Maker) Prog(depth int) api.Prog {
	out := api.Prog{Decls: m.prog.Decls}
	for _, f := range m.prog.Funs {
		f.Body = m.Term(depth, f.Result, f.Params, nil)
		out.Funs = append(out.Funs, f)
	}
	return out
}

// Term returns a term of the given type in the scope of these variables and labels. Its depth may be larger than the given one where a smallest term of a type is deep.
func (m Maker) Term(depth, typ int, vars, labels []api.Param) api.Term {
	if m.odd > 0 && m.Below(m.odd) == 0 {
		typ = m.anyType()
	}
	s := scope{m, depth, vars, labels}
	if depth <= 1 || m.Below(10) == 0 {
		return s.leaf(typ)
	}
	return s.term(typ)
}

func (m Maker) anyType() int {
	return m.Below(len(m.prog.Decls) + 1)
}

// names has enough names for the arguments of an xtor, and few, so that inner ones shadow outer ones.
func names() []string {
	return []string{"x", "l", "s", "g", "k", "j"}
}

// distinct returns n of the names, in any order.
func (m Maker) distinct(n int) []string {
	l := names()
	for i := range n {
		j := i + m.Below(len(l)-i)
		l[i], l[j] = l[j], l[i]
	}
	return l[:n]
}

// scope is a place in a term: what is in scope there, and how deep a term may be.
type scope struct {
	Maker
	depth        int
	vars, labels []api.Param
}

// next returns a subterm in which more variables are in scope.
func (s scope) next(typ int, bound ...api.Param) api.Term {
	return s.Term(s.depth-1, typ, with(s.vars, bound), s.labels)
}

func (s scope) each(types []int) []api.Term {
	var out []api.Term
	for _, typ := range types {
		out = append(out, s.next(typ))
	}
	return out
}

// with returns what of l the new names do not shadow, and the new ones.
func with(l, bound []api.Param) []api.Param {
	var out []api.Param
	for _, a := range l {
		if !named(bound, a.Name) {
			out = append(out, a)
		}
	}
	return append(out, bound...)
}

func named(l []api.Param, name string) bool {
	for _, a := range l {
		if a.Name == name {
			return true
		}
	}
	return false
}

func (s scope) leaf(typ int) api.Term {
	var l []api.Param
	for _, a := range s.vars {
		if a.Type == typ {
			l = append(l, a)
		}
	}
	if len(l) > 0 && s.Below(4) > 0 {
		return api.Term{Op: api.TVar, Name: Pick(s.Numbers, l).Name}
	}
	if typ == 0 {
		return api.Term{Op: api.TInt, N: integer(s.Numbers)}
	}
	return s.least[typ]()
}
