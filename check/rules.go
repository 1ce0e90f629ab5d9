package check

import (
	"slices"

	"chiasmus/api"
	"chiasmus/decl"
	"chiasmus/heads"
)

// signature is what xtors and functions have in common: the types of the Args of a term that applies one, and the type of that term.
type signature struct {
	args   []int
	result int
}

func (g signature) apply(parts []int) (int, bool) {
	return g.result, slices.Equal(parts, g.args)
}

// rule returns the type of t, if it has one. parts are the types of the children of t: its Args and then the bodies of its Clauses.
type rule func(s scope, t api.Term, parts []int) (typ int, ok bool)

// checker knows a valid program and has a rule for each operator.
type checker struct {
	funs  []signature
	xtors [][]signature // for each type
	rules [api.TGoto + 1]rule
}

func newChecker(p api.Prog) *checker {
	c := &checker{xtors: make([][]signature, len(p.Decls)+1)}
	for _, f := range p.Funs {
		c.funs = append(c.funs, ofFun(f))
	}
	for i, d := range p.Decls {
		for n := range d.Xtors {
			c.xtors[i+1] = append(c.xtors[i+1], ofXtor(p.Decls, i+1, n))
		}
	}
	c.rules = [...]rule{
		api.TVar:    c.variable,
		api.TInt:    c.integer,
		api.TPrim:   c.primitive,
		api.TIfz:    c.zero,
		api.TCon:    c.xtor,
		api.TCase:   c.analysis,
		api.TDtor:   c.xtor,
		api.TCocase: c.object,
		api.TLet:    c.let,
		api.TCall:   c.call,
		api.TEmit:   c.emit,
		api.TLabel:  c.label,
		api.TGoto:   c.jump,
	}
	return c
}

func ofFun(f api.Fun) signature {
	return signature{args: heads.Params(f), result: f.Result}
}

// ofXtor puts the object of an observation in the place of the consumer, since it is the last of the Args.
func ofXtor(l []api.Decl, typ, n int) signature {
	d := l[typ-1]
	g := signature{args: heads.Producers(d.Xtors[n]), result: typ}
	if d.Codata {
		g.args = append(g.args, typ)
		g.result, _ = decl.Result(l, typ, n)
	}
	return g
}

func (c *checker) variable(s scope, t api.Term, parts []int) (int, bool) {
	return s.vars.find(t.Name)
}

func (c *checker) integer(s scope, t api.Term, parts []int) (int, bool) {
	return 0, true
}

func (c *checker) primitive(s scope, t api.Term, parts []int) (int, bool) {
	return 0, parts[0] == 0 && parts[1] == 0
}

func (c *checker) zero(s scope, t api.Term, parts []int) (int, bool) {
	return parts[1], parts[0] == 0 && parts[1] == parts[2]
}

func (c *checker) xtor(s scope, t api.Term, parts []int) (int, bool) {
	return c.xtors[t.Type][t.N].apply(parts)
}

func (c *checker) analysis(s scope, t api.Term, parts []int) (int, bool) {
	first, others := parts[1], parts[2:]
	for _, typ := range others {
		if typ != first {
			return 0, false
		}
	}
	return first, parts[0] == t.Type
}

func (c *checker) object(s scope, t api.Term, parts []int) (int, bool) {
	for n, typ := range parts {
		if typ != c.xtors[t.Type][n].result {
			return 0, false
		}
	}
	return t.Type, true
}

func (c *checker) let(s scope, t api.Term, parts []int) (int, bool) {
	return parts[1], parts[0] == t.Type
}

func (c *checker) call(s scope, t api.Term, parts []int) (int, bool) {
	return c.funs[t.N].apply(parts)
}

func (c *checker) emit(s scope, t api.Term, parts []int) (int, bool) {
	return parts[1], parts[0] == 0
}

func (c *checker) label(s scope, t api.Term, parts []int) (int, bool) {
	return t.Type, parts[0] == t.Type
}

func (c *checker) jump(s scope, t api.Term, parts []int) (int, bool) {
	typ, ok := s.labels.find(t.Name)
	return t.Type, ok && parts[0] == typ
}
