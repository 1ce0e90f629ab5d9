package text

import (
	"slices"
	"strconv"

	"chiasmus/api"
	"chiasmus/prim"
	"chiasmus/term"
)

// resolver knows the numbers of the names that a program declares. If one of them is declared twice, any number will do: such a program is not valid.
type resolver struct {
	types map[string]int
	funs  map[string]int
	xtors map[string]place
	names map[string][]string // for each type, the names of its xtors
}

// place is where an xtor is declared.
type place struct {
	typ, n int
}

func resolve(t progTree) api.Prog {
	r := newResolver(t)
	p := api.Prog{Decls: each(t.decls, r.decl), Funs: each(t.funs, r.fun)}
	if term.Check(p) != api.OK {
		invalid()
	}
	return p
}

func newResolver(t progTree) resolver {
	r := resolver{map[string]int{"int": 0}, map[string]int{}, map[string]place{}, map[string][]string{}}
	for i, d := range t.decls {
		r.types[d.name] = i + 1
		r.names[d.name] = each(d.xtors, xtorTree.called)
		for j, x := range d.xtors {
			r.xtors[x.name] = place{i + 1, j}
		}
	}
	for i, f := range t.funs {
		r.funs[f.name] = i
	}
	return r
}

func (x xtorTree) called() string {
	return x.name
}

// each returns what f makes of the elements of l.
func each[A, B any](l []A, f func(A) B) []B {
	var out []B
	for _, a := range l {
		out = append(out, f(a))
	}
	return out
}

// find returns what is known of a name.
func find[V any](known map[string]V, name string) V {
	x, ok := known[name]
	if !ok {
		invalid()
	}
	return x
}

func (r resolver) decl(d declTree) api.Decl {
	return api.Decl{Name: d.name, Codata: d.codata, Xtors: each(d.xtors, r.xtor)}
}

func (r resolver) xtor(x xtorTree) api.Xtor {
	return api.Xtor{Name: x.name, Args: each(x.args, r.arg)}
}

func (r resolver) arg(a argTree) api.Arg {
	return api.Arg{Type: find(r.types, a.typ), Co: a.co}
}

func (r resolver) fun(f funTree) api.Fun {
	return api.Fun{Name: f.name, Params: each(f.params, r.param), Result: find(r.types, f.result), Body: r.term(f.body)}
}

func (r resolver) param(a paramTree) api.Param {
	return api.Param{Name: a.name, Type: find(r.types, a.typ)}
}

func (r resolver) term(t termTree) api.Term {
	out := api.Term{Op: t.op, Args: each(t.args, r.term)}
	switch t.op {
	case api.TVar:
		out.Name = t.word
	case api.TInt:
		out.N = integer(t.word)
	case api.TPrim:
		out.N, _ = prim.Find(t.word)
	case api.TCon, api.TDtor:
		x := find(r.xtors, t.word)
		out.Type, out.N = x.typ, x.n
	case api.TCase, api.TCocase:
		out.Type = find(r.types, t.typ)
		out.Clauses = r.clauses(t)
	case api.TCall:
		out.N = find(r.funs, t.word)
	case api.TLet, api.TLabel, api.TGoto:
		out.Name, out.Type = t.word, find(r.types, t.typ)
	}
	return out
}

// clauses asks for the names of the xtors, which the clauses of a program do not keep.
func (r resolver) clauses(t termTree) []api.Clause {
	if !slices.Equal(r.names[t.typ], each(t.clauses, clauseTree.of)) {
		invalid()
	}
	return each(t.clauses, r.clause)
}

func (c clauseTree) of() string {
	return c.xtor
}

func (r resolver) clause(c clauseTree) api.Clause {
	return api.Clause{Names: c.names, Body: r.term(c.body)}
}

func integer(word string) int {
	n, err := strconv.Atoi(word)
	if err != nil {
		invalid()
	}
	return n
}
