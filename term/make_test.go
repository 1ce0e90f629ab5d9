package term

import (
	"strconv"

	"chiasmus/api"
)

// Short ways to write terms and programs.

// The types that decls declares.
const (
	list = 1 + iota
	stream
	fn
)

// decls returns
//
//	data list { Nil(), Cons(int, list) }
//	codata stream { Head(~int), Tail(~stream) }
//	codata fn { Ap(int, list, ~int) }
func decls() []api.Decl {
	return []api.Decl{
		{Name: "list", Xtors: []api.Xtor{
			{Name: "Nil"},
			{Name: "Cons", Args: []api.Arg{{}, {Type: list}}},
		}},
		{Name: "stream", Codata: true, Xtors: []api.Xtor{
			{Name: "Head", Args: []api.Arg{{Co: true}}},
			{Name: "Tail", Args: []api.Arg{{Type: stream, Co: true}}},
		}},
		{Name: "fn", Codata: true, Xtors: []api.Xtor{
			{Name: "Ap", Args: []api.Arg{{}, {Type: list}, {Co: true}}},
		}},
	}
}

func v(name string) api.Term {
	return api.Term{Op: api.TVar, Name: name}
}

func num(n int) api.Term {
	return api.Term{Op: api.TInt, N: n}
}

func prim(n int, a, b api.Term) api.Term {
	return api.Term{Op: api.TPrim, N: n, Args: []api.Term{a, b}}
}

func ifz(t, a, b api.Term) api.Term {
	return api.Term{Op: api.TIfz, Args: []api.Term{t, a, b}}
}

func con(typ, n int, args ...api.Term) api.Term {
	return api.Term{Op: api.TCon, Type: typ, N: n, Args: args}
}

func match(typ int, t api.Term, clauses ...api.Clause) api.Term {
	return api.Term{Op: api.TCase, Type: typ, Args: []api.Term{t}, Clauses: clauses}
}

func dtor(typ, n int, args ...api.Term) api.Term {
	return api.Term{Op: api.TDtor, Type: typ, N: n, Args: args}
}

func object(typ int, clauses ...api.Clause) api.Term {
	return api.Term{Op: api.TCocase, Type: typ, Clauses: clauses}
}

func clause(body api.Term, names ...string) api.Clause {
	return api.Clause{Names: names, Body: body}
}

func let(name string, typ int, t, u api.Term) api.Term {
	return api.Term{Op: api.TLet, Name: name, Type: typ, Args: []api.Term{t, u}}
}

func call(n int, args ...api.Term) api.Term {
	return api.Term{Op: api.TCall, N: n, Args: args}
}

func emit(t, u api.Term) api.Term {
	return api.Term{Op: api.TEmit, Args: []api.Term{t, u}}
}

func label(name string, typ int, t api.Term) api.Term {
	return api.Term{Op: api.TLabel, Name: name, Type: typ, Args: []api.Term{t}}
}

func jump(name string, typ int, t api.Term) api.Term {
	return api.Term{Op: api.TGoto, Name: name, Type: typ, Args: []api.Term{t}}
}

// program returns a program with decls whose main has this body, and two more functions: sum, with a list, and zero, without parameters.
func program(body api.Term) api.Prog {
	sum := match(list, v("l"), clause(num(0)), clause(prim(api.Add, v("x"), call(1, v("r"))), "x", "r"))
	return api.Prog{Decls: decls(), Funs: []api.Fun{
		{Name: "main", Params: []api.Param{{Name: "n"}}, Body: body},
		{Name: "sum", Params: []api.Param{{Name: "l", Type: list}}, Body: sum},
		{Name: "zero", Body: num(0)},
	}}
}

// samples returns a valid term for each operator, in the order of the operators, where the variables x and y and the label k are in scope.
func samples() []api.Term {
	x, y := v("x"), v("y")
	return []api.Term{
		x,
		num(7),
		prim(api.Lt, x, y),
		ifz(x, y, num(2)),
		con(list, 1, x, y),
		match(list, x, clause(y), clause(v("b"), "a", "b")),
		dtor(fn, 0, x, y, x),
		object(stream, clause(x), clause(y)),
		let("z", stream, x, v("z")),
		call(1, x),
		emit(x, y),
		label("j", list, jump("j", 0, x)),
		jump("k", fn, x),
	}
}

// chain returns a term of the given depth, with as many nodes.
func chain(depth int) api.Term {
	t := num(1)
	for range depth - 1 {
		t = label("k", 0, t)
	}
	return t
}

// bush returns a term with the given number of nodes, at most 2 * MaxNodes, and a small depth.
func bush(count int) api.Term {
	if count <= 2 {
		return chain(count)
	}
	if count == 3 {
		return emit(num(1), num(1))
	}
	third := (count - 1) / 3
	return ifz(bush(third), bush(third), bush(count-1-2*third))
}

// manyFuns returns n functions without parameters that return 0, the first of which is main.
func manyFuns(n int) []api.Fun {
	l := make([]api.Fun, n)
	for i := range l {
		l[i] = api.Fun{Name: "f" + strconv.Itoa(i), Body: num(0)}
	}
	return l
}

// clone returns a copy that shares no memory with t.
func clone(t api.Term) api.Term {
	out := t
	out.Args, out.Clauses = nil, nil
	for _, a := range t.Args {
		out.Args = append(out.Args, clone(a))
	}
	for _, c := range t.Clauses {
		out.Clauses = append(out.Clauses, api.Clause{Names: append([]string(nil), c.Names...), Body: clone(c.Body)})
	}
	return out
}

// cloneProg returns a copy whose functions share no memory with p.
func cloneProg(p api.Prog) api.Prog {
	out := api.Prog{Decls: append([]api.Decl(nil), p.Decls...)}
	for _, f := range p.Funs {
		f.Params = append([]api.Param(nil), f.Params...)
		f.Body = clone(f.Body)
		out.Funs = append(out.Funs, f)
	}
	return out
}

// numbers yields a fixed sequence of numbers below n that shows no short pattern.
type numbers uint64

func (s *numbers) below(n int) int {
	*s = *s*6364136223846793005 + 1442695040888963407
	return int(uint64(*s>>33) % uint64(n))
}

// name returns one of few names, so that inner ones shadow outer ones.
func (s *numbers) name() string {
	return string(rune('a' + s.below(4)))
}

// fitting returns a term with the fields that its operator requires, in which the sequence decides about everything; what it names may be out of scope.
func (s *numbers) fitting(depth int) api.Term {
	next := func() api.Term { return s.fitting(depth - 1) }
	op := s.below(13)
	if depth <= 1 {
		op = s.below(2)
	}
	switch op {
	case api.TVar:
		return v(s.name())
	case api.TInt:
		return num(s.below(100))
	case api.TPrim:
		return prim(s.below(7), next(), next())
	case api.TIfz:
		return ifz(next(), next(), next())
	case api.TCon:
		return con(list, 1, next(), next())
	case api.TCase:
		a := s.name()
		return match(list, next(), clause(next()), clause(next(), a, a+"b"))
	case api.TDtor:
		return dtor(stream, s.below(2), next())
	case api.TCocase:
		a := s.name()
		return object(fn, clause(next(), a+"b", a))
	case api.TLet:
		return let(s.name(), s.below(4), next(), next())
	case api.TCall:
		return call(s.below(2), next())
	case api.TEmit:
		return emit(next(), next())
	case api.TLabel:
		return label(s.name(), s.below(4), next())
	}
	return jump(s.name(), s.below(4), next())
}

// wild returns a term whose fields have nothing to do with its operator.
func (s *numbers) wild(depth int) api.Term {
	t := api.Term{Op: s.below(16) - 1, N: s.below(9) - 1, Name: s.name(), Type: s.below(9) - 1}
	if depth <= 1 {
		return t
	}
	for range s.below(4) {
		t.Args = append(t.Args, s.wild(depth-1))
	}
	for range s.below(3) {
		c := clause(s.wild(depth - 1))
		for range s.below(4) {
			c.Names = append(c.Names, s.name())
		}
		t.Clauses = append(t.Clauses, c)
	}
	return t
}
