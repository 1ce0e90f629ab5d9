package check_test

import (
	"testing"

	"chiasmus/api"
	"chiasmus/text"
)

// The types that declText declares.
const (
	list = 1 + iota
	stream
	fn
	pair
)

const declText = `data list { Nil(), Cons(int, list) }
codata stream { Head(~int), Tail(~stream) }
codata fn { Ap(int, list, ~stream) }
data pair { Pair(stream, fn) }
`

// none stands for the type of a term that has no type.
const none = -1

// params has a variable of each type but pair, which the function f of program has as parameters.
func params() []api.Param {
	return []api.Param{{Name: "x"}, {Name: "l", Type: list}, {Name: "s", Type: stream}, {Name: "g", Type: fn}}
}

func parse(t *testing.T, s string) api.Prog {
	t.Helper()
	p, e := text.Parse(declText + s)
	if e != api.OK {
		t.Fatalf("%s: %d", s, e)
	}
	return p
}

// program returns a program whose second function, f, has the given result type and body.
func program(t *testing.T, result, body string) api.Prog {
	t.Helper()
	return parse(t, "fun main(n : int) : int = n;"+
		"fun f(x : int, l : list, s : stream, g : fn) : "+result+" = "+body+";"+
		"fun two(a : int, b : stream) : pair = Pair(b, cocase fn { Ap(i, j) => b });")
}

func typeNames() []string {
	return []string{"int", "list", "stream", "fn", "pair"}
}

// numbers yields a fixed sequence of numbers below n that shows no short pattern.
type numbers uint64

func (s *numbers) below(n int) int {
	*s = *s*6364136223846793005 + 1442695040888963407
	return int(uint64(*s>>33) % uint64(n))
}

func pick[T any](s *numbers, l []T) T {
	return l[s.below(len(l))]
}

// maker makes valid terms of a program, most of which are of the type that was asked for.
type maker struct {
	*numbers
	p api.Prog
}

// ofType returns what of l has the given type.
func ofType(l []api.Param, typ int) []api.Param {
	var out []api.Param
	for _, a := range l {
		if a.Type == typ {
			out = append(out, a)
		}
	}
	return out
}

func plus(l []api.Param, more ...api.Param) []api.Param {
	return append(l[:len(l):len(l)], more...)
}

func (m maker) name() string {
	return pick(m.numbers, []string{"x", "l", "s", "g", "k"})
}

func (m maker) leaf(typ int, vars []api.Param) api.Term {
	if l := ofType(vars, typ); len(l) > 0 {
		return api.Term{Op: api.TVar, Name: pick(m.numbers, l).Name}
	}
	if typ == list {
		return api.Term{Op: api.TCon, Type: list}
	}
	return api.Term{Op: api.TInt, N: m.below(3)}
}

func (m maker) term(depth, typ int, vars, labels []api.Param) api.Term {
	if m.below(60) == 0 {
		typ = m.below(len(m.p.Decls) + 1)
	}
	if depth <= 1 || m.below(6) == 0 {
		return m.leaf(typ, vars)
	}
	next := func(typ int, bound ...api.Param) api.Term {
		return m.term(depth-1, typ, plus(vars, bound...), labels)
	}
	a := api.Param{Name: m.name(), Type: m.below(len(m.p.Decls) + 1)}
	switch op := m.below(13); {
	case op == api.TPrim && typ == 0:
		return api.Term{Op: op, N: m.below(7), Args: []api.Term{next(0), next(0)}}
	case op == api.TIfz:
		return api.Term{Op: op, Args: []api.Term{next(0), next(typ), next(typ)}}
	case op == api.TCase:
		return m.analysis(pick(m.numbers, []int{list, pair}), typ, next)
	case op == api.TDtor && (typ == 0 || typ == stream):
		return m.observation(typ, next)
	case op == api.TLet:
		return api.Term{Op: op, Name: a.Name, Type: a.Type, Args: []api.Term{next(a.Type), next(typ, a)}}
	case op == api.TCall:
		return m.call(typ, next)
	case op == api.TEmit:
		return api.Term{Op: op, Args: []api.Term{next(0), next(typ)}}
	case op == api.TLabel:
		body := m.term(depth-1, typ, vars, plus(labels, api.Param{Name: a.Name, Type: typ}))
		return api.Term{Op: op, Name: a.Name, Type: typ, Args: []api.Term{body}}
	case op == api.TGoto && len(labels) > 0:
		k := pick(m.numbers, labels)
		return api.Term{Op: op, Name: k.Name, Type: typ, Args: []api.Term{next(k.Type)}}
	}
	return m.made(typ, next)
}

type next func(typ int, bound ...api.Param) api.Term

// made applies a constructor, or defines an object.
func (m maker) made(typ int, next next) api.Term {
	switch typ {
	case list:
		return api.Term{Op: api.TCon, Type: list, N: 1, Args: []api.Term{next(0), next(list)}}
	case stream:
		return api.Term{Op: api.TCocase, Type: stream, Clauses: []api.Clause{{Body: next(0)}, {Body: next(stream)}}}
	case fn:
		a, b := api.Param{Name: m.name()}, api.Param{Name: "j", Type: list}
		return api.Term{Op: api.TCocase, Type: fn, Clauses: []api.Clause{{Names: []string{a.Name, b.Name}, Body: next(stream, a, b)}}}
	case pair:
		return api.Term{Op: api.TCon, Type: pair, Args: []api.Term{next(stream), next(fn)}}
	}
	return api.Term{Op: api.TInt, N: m.below(9)}
}

func (m maker) analysis(of, typ int, next next) api.Term {
	a, b := api.Param{Name: m.name()}, api.Param{Name: "j", Type: list}
	clauses := []api.Clause{{Body: next(typ)}, {Names: []string{a.Name, b.Name}, Body: next(typ, a, b)}}
	if of == pair {
		a.Type, b.Type = stream, fn
		clauses = []api.Clause{{Names: []string{a.Name, b.Name}, Body: next(typ, a, b)}}
	}
	return api.Term{Op: api.TCase, Type: of, Args: []api.Term{next(of)}, Clauses: clauses}
}

func (m maker) observation(typ int, next next) api.Term {
	if typ == 0 {
		return api.Term{Op: api.TDtor, Type: stream, Args: []api.Term{next(stream)}}
	}
	if m.below(2) == 0 {
		return api.Term{Op: api.TDtor, Type: fn, Args: []api.Term{next(0), next(list), next(fn)}}
	}
	return api.Term{Op: api.TDtor, Type: stream, N: 1, Args: []api.Term{next(stream)}}
}

// call calls a function with a result of another type if there is none of this one.
func (m maker) call(typ int, next next) api.Term {
	n := m.below(len(m.p.Funs))
	for i, f := range m.p.Funs {
		if f.Result == typ {
			n = i
		}
	}
	out := api.Term{Op: api.TCall, N: n}
	for _, a := range m.p.Funs[n].Params {
		out.Args = append(out.Args, next(a.Type))
	}
	return out
}
