package lower

import (
	"chiasmus/api"
	"chiasmus/decl"
	"chiasmus/heads"
	"chiasmus/node"
)

// rule translates a term with a certain operator. In a well-typed program the type of each term is the one that its place requires, which is typ.
type rule func(l *translator, s scope, t api.Term, typ int) api.Node

func rules() map[int]rule {
	return map[int]rule{
		api.TVar:    (*translator).variable,
		api.TInt:    (*translator).integer,
		api.TPrim:   (*translator).primitive,
		api.TIfz:    (*translator).zero,
		api.TCon:    (*translator).construct,
		api.TCase:   (*translator).analysis,
		api.TDtor:   (*translator).observation,
		api.TCocase: (*translator).object,
		api.TLet:    (*translator).let,
		api.TCall:   (*translator).call,
		api.TEmit:   (*translator).emit,
		api.TLabel:  (*translator).label,
		api.TGoto:   (*translator).jump,
	}
}

func (l *translator) variable(s scope, t api.Term, typ int) api.Node {
	return s.vars[t.Name].Node()
}

func (l *translator) integer(s scope, t api.Term, typ int) api.Node {
	return api.Node{Op: api.PInt, N: t.N}
}

func (l *translator) primitive(s scope, t api.Term, typ int) api.Node {
	return l.mu(typ, func(a api.Node) api.Node {
		args := l.each(s, t.Args, []int{0, 0})
		return api.Node{Op: api.KPrim, N: t.N, Args: append(args, a)}
	})
}

func (l *translator) zero(s scope, t api.Term, typ int) api.Node {
	return l.mu(typ, func(a api.Node) api.Node {
		test := l.term(s, t.Args[0], 0)
		then := l.pass(s, t.Args[1], typ, a)
		otherwise := l.pass(s, t.Args[2], typ, a)
		return api.Node{Op: api.KIfz, Args: []api.Node{test, then, otherwise}}
	})
}

func (l *translator) construct(s scope, t api.Term, typ int) api.Node {
	return api.Node{Op: api.PXtor, N: t.N, Type: t.Type, Args: l.each(s, t.Args, l.argTypes(t))}
}

func (l *translator) analysis(s scope, t api.Term, typ int) api.Node {
	return l.mu(typ, func(a api.Node) api.Node {
		analyzed := l.term(s, t.Args[0], t.Type)
		match := api.Node{Op: api.CMatch, Type: t.Type}
		for _, c := range t.Clauses {
			inner, b := l.clause(s, c)
			b.Body = l.pass(inner, c.Body, typ, a)
			match.Branches = append(match.Branches, b)
		}
		return node.Cut(t.Type, analyzed, match)
	})
}

func (l *translator) observation(s scope, t api.Term, typ int) api.Node {
	last := len(t.Args) - 1
	return l.mu(typ, func(a api.Node) api.Node {
		observed := l.term(s, t.Args[last], t.Type)
		args := l.each(s, t.Args[:last], l.argTypes(t))
		return node.Cut(t.Type, observed, api.Node{Op: api.CXtor, N: t.N, Type: t.Type, Args: append(args, a)})
	})
}

func (l *translator) object(s scope, t api.Term, typ int) api.Node {
	match := api.Node{Op: api.PMatch, Type: t.Type}
	for n, c := range t.Clauses {
		result, _ := decl.Result(l.prog.Decls, t.Type, n)
		inner, b := l.clause(s, c)
		a := l.Fresh(node.Consumer)
		b.Vars, b.Co = append(b.Vars, a.N), append(b.Co, true)
		b.Body = l.pass(inner, c.Body, result, a.Node())
		match.Branches = append(match.Branches, b)
	}
	return match
}

func (l *translator) let(s scope, t api.Term, typ int) api.Node {
	return l.mu(typ, func(a api.Node) api.Node {
		bound := l.term(s, t.Args[0], t.Type)
		x := l.Fresh(node.Producer)
		inner := s.bind([]string{t.Name}, []node.Variable{x})
		return node.Cut(t.Type, bound, node.Binding(x, t.Type, l.pass(inner, t.Args[1], typ, a)))
	})
}

func (l *translator) call(s scope, t api.Term, typ int) api.Node {
	f := t.N
	if f == 0 {
		// Main expects no consumer. A copy of it does, after all other functions.
		f = len(l.prog.Funs)
	}
	return l.mu(typ, func(a api.Node) api.Node {
		args := l.each(s, t.Args, heads.Params(l.prog.Funs[t.N]))
		return api.Node{Op: api.KCall, N: f, Args: append(args, a)}
	})
}

func (l *translator) emit(s scope, t api.Term, typ int) api.Node {
	return l.mu(typ, func(a api.Node) api.Node {
		emitted := l.term(s, t.Args[0], 0)
		return api.Node{Op: api.KEmit, Args: []api.Node{emitted, l.pass(s, t.Args[1], typ, a)}}
	})
}

func (l *translator) label(s scope, t api.Term, typ int) api.Node {
	a := l.Fresh(node.Consumer)
	inner := s.mark(t.Name, label{a, t.Type})
	return node.Binding(a, t.Type, l.pass(inner, t.Args[0], t.Type, a.Node()))
}

func (l *translator) jump(s scope, t api.Term, typ int) api.Node {
	to := s.labels[t.Name]
	return l.mu(t.Type, func(api.Node) api.Node {
		return l.pass(s, t.Args[0], to.typ, to.Node())
	})
}
