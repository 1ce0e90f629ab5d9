package sample

import (
	"chiasmus/api"
	"chiasmus/heads"
)

// term returns a term with any operator that suits the type.
func (s scope) term(typ int) api.Term {
	switch op := s.Below(api.TGoto + 1); op {
	case api.TIfz:
		return api.Term{Op: op, Args: s.each([]int{0, typ, typ})}
	case api.TCase:
		return s.analysis(typ)
	case api.TDtor:
		return s.observation(typ)
	case api.TLet:
		a := api.Param{Name: Pick(s.Numbers, names()), Type: s.anyType()}
		return api.Term{Op: op, Name: a.Name, Type: a.Type, Args: []api.Term{s.next(a.Type), s.next(typ, a)}}
	case api.TCall:
		return s.call(typ)
	case api.TEmit:
		return api.Term{Op: op, Args: s.each([]int{0, typ})}
	case api.TLabel:
		return s.label(typ)
	case api.TGoto, api.TVar:
		return s.jump(typ)
	}
	return s.made(typ)
}

// made applies a primitive operation or a constructor, or defines an object.
func (s scope) made(typ int) api.Term {
	if typ == 0 {
		return api.Term{Op: api.TPrim, N: s.Below(api.Lt + 1), Args: s.each([]int{0, 0})}
	}
	d := s.prog.Decls[typ-1]
	if d.Codata {
		return api.Term{Op: api.TCocase, Type: typ, Clauses: s.clauses(d, results(d))}
	}
	n := s.Below(len(d.Xtors))
	return api.Term{Op: api.TCon, Type: typ, N: n, Args: s.each(heads.Producers(d.Xtors[n]))}
}

// clauses returns a clause for each xtor, with a body of the corresponding type.
func (s scope) clauses(d api.Decl, types []int) []api.Clause {
	var out []api.Clause
	for n, x := range d.Xtors {
		var bound []api.Param
		l := s.distinct(len(heads.Producers(x)))
		for i, typ := range heads.Producers(x) {
			bound = append(bound, api.Param{Name: l[i], Type: typ})
		}
		out = append(out, api.Clause{Names: l, Body: s.next(types[n], bound...)})
	}
	return out
}

func (s scope) analysis(typ int) api.Term {
	var l []int
	for i, d := range s.prog.Decls {
		if !d.Codata {
			l = append(l, i+1)
		}
	}
	if len(l) == 0 {
		return s.made(typ)
	}
	of := Pick(s.Numbers, l)
	d := s.prog.Decls[of-1]
	types := make([]int, len(d.Xtors))
	for i := range types {
		types[i] = typ
	}
	return api.Term{Op: api.TCase, Type: of, Args: []api.Term{s.next(of)}, Clauses: s.clauses(d, types)}
}

func (s scope) observation(typ int) api.Term {
	var l [][2]int
	for i, d := range s.prog.Decls {
		if !d.Codata {
			continue
		}
		for n, result := range results(d) {
			if result == typ {
				l = append(l, [2]int{i + 1, n})
			}
		}
	}
	if len(l) == 0 {
		return s.made(typ)
	}
	x := Pick(s.Numbers, l)
	types := heads.Producers(s.prog.Decls[x[0]-1].Xtors[x[1]])
	return api.Term{Op: api.TDtor, Type: x[0], N: x[1], Args: s.each(append(types, x[0]))}
}

func (s scope) call(typ int) api.Term {
	var l []int
	for n, f := range s.prog.Funs {
		if f.Result == typ {
			l = append(l, n)
		}
	}
	if len(l) == 0 {
		return s.made(typ)
	}
	n := Pick(s.Numbers, l)
	return api.Term{Op: api.TCall, N: n, Args: s.each(heads.Params(s.prog.Funs[n]))}
}

func (s scope) label(typ int) api.Term {
	a := api.Param{Name: Pick(s.Numbers, names()), Type: typ}
	body := s.Term(s.depth-1, typ, s.vars, with(s.labels, []api.Param{a}))
	return api.Term{Op: api.TLabel, Name: a.Name, Type: typ, Args: []api.Term{body}}
}

func (s scope) jump(typ int) api.Term {
	if len(s.labels) == 0 {
		return s.label(typ)
	}
	a := Pick(s.Numbers, s.labels)
	return api.Term{Op: api.TGoto, Name: a.Name, Type: typ, Args: []api.Term{s.next(a.Type)}}
}
