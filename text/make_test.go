package text_test

import (
	"strings"

	"chiasmus/api"
)

// The types that decls declares.
const (
	list = 1 + iota
	stream
	fn
)

const declText = `data list { Nil(), Cons(int, list) }
codata stream { Head(~int), Tail(~stream) }
codata fn { Ap(int, list, ~int) }
`

func decls() []api.Decl {
	return []api.Decl{
		{Name: "list", Xtors: []api.Xtor{
			{Name: "Nil"},
			{Name: "Cons", Args: []api.Arg{{}, {Type: list}}},
		}},
		{Name: "stream", Codata: true, Xtors: []api.Xtor{
			{Name: "Head", Args: []api.Arg{{Co: true}}},
			{Name: "Tail", Args: []api.Arg{{Type: stream, Co: true}}},
		}},
		{Name: "fn", Codata: true, Xtors: []api.Xtor{
			{Name: "Ap", Args: []api.Arg{{}, {Type: list}, {Co: true}}},
		}},
	}
}

// program returns the program whose string is wrap of the string of body.
func program(body api.Term) api.Prog {
	return api.Prog{Decls: decls(), Funs: []api.Fun{
		{Name: "main", Params: []api.Param{{Name: "x"}}, Body: num(0)},
		{Name: "f", Params: []api.Param{{Name: "x"}, {Name: "y", Type: stream}}, Result: list, Body: jumper(body)},
	}}
}

func wrap(body string) string {
	return declText + "fun main(x : int) : int = 0;\nfun f(x : int, y : stream) : list = label(k : list, " + body + ");\n"
}

// bare returns the string of a program without declarations whose only function has this body.
func bare(body string) string {
	return "fun main() : int = " + body + ";\n"
}

// jumper gives body a label k.
func jumper(body api.Term) api.Term {
	return api.Term{Op: api.TLabel, Name: "k", Type: list, Args: []api.Term{body}}
}

func node(op int, args ...api.Term) api.Term {
	return api.Term{Op: op, Args: args}
}

func typed(typ, n int, t api.Term) api.Term {
	t.Type, t.N = typ, n
	return t
}

func named(name string, t api.Term) api.Term {
	t.Name = name
	return t
}

func with(t api.Term, clauses ...api.Clause) api.Term {
	t.Clauses = clauses
	return t
}

func v(name string) api.Term {
	return named(name, node(api.TVar))
}

func num(n int) api.Term {
	return typed(0, n, node(api.TInt))
}

// sample is a term, valid in program, and its string.
type sample struct {
	t api.Term
	s string
}

func samples() []sample {
	x, y, one := v("x"), v("y"), num(1)
	nothing := typed(list, 0, node(api.TCon))
	l := []sample{
		{x, "x"},
		{num(0), "0"},
		{num(7), "7"},
		{num(-7), "-7"},
		{num(1<<63 - 1), "9223372036854775807"},
		{num(-1 << 63), "-9223372036854775808"},
		{node(api.TIfz, x, y, one), "ifz(x, y, 1)"},
		{nothing, "Nil()"},
		{typed(list, 1, node(api.TCon, x, nothing)), "Cons(x, Nil())"},
		{with(typed(list, 0, node(api.TCase, x)), api.Clause{Body: y}, api.Clause{Names: []string{"a", "b"}, Body: v("b")}),
			"case list(x) { Nil() => y, Cons(a, b) => b }"},
		{typed(stream, 0, node(api.TDtor, y)), "y.Head()"},
		{typed(fn, 0, node(api.TDtor, one, nothing, y)), "y.Ap(1, Nil())"},
		{typed(stream, 1, node(api.TDtor, typed(stream, 1, node(api.TDtor, y)))), "y.Tail().Tail()"},
		{with(typed(stream, 0, node(api.TCocase)), api.Clause{Body: x}, api.Clause{Body: y}),
			"cocase stream { Head() => x, Tail() => y }"},
		{with(typed(fn, 0, node(api.TCocase)), api.Clause{Names: []string{"b", "a"}, Body: v("a")}),
			"cocase fn { Ap(b, a) => a }"},
		{named("z", typed(stream, 0, node(api.TLet, y, v("z")))), "let(z : stream = y, z)"},
		{typed(0, 0, node(api.TCall, one)), "main(1)"},
		{typed(0, 1, node(api.TCall, one, y)), "f(1, y)"},
		{node(api.TEmit, one, x), "emit(1, x)"},
		{named("j", typed(fn, 0, node(api.TLabel, one))), "label(j : fn, 1)"},
		{named("k", typed(0, 0, node(api.TGoto, one))), "goto(k, 1 : int)"},
	}
	for n, sign := range strings.Fields("+ - * / % == <") {
		l = append(l, sample{typed(0, n, node(api.TPrim, x, num(-1))), "(x " + sign + " -1)"})
	}
	return l
}

// around returns terms of every operator that has subterms, each with x in the position of one of them, and its string.
func around(x sample) []sample {
	one := num(1)
	first, second := api.Clause{Body: x.t}, api.Clause{Body: one}
	return []sample{
		{typed(0, api.Sub, node(api.TPrim, x.t, one)), "(" + x.s + " - 1)"},
		{typed(0, api.Sub, node(api.TPrim, one, x.t)), "(1 - " + x.s + ")"},
		{node(api.TIfz, x.t, one, one), "ifz(" + x.s + ", 1, 1)"},
		{node(api.TIfz, one, one, x.t), "ifz(1, 1, " + x.s + ")"},
		{typed(list, 1, node(api.TCon, x.t, x.t)), "Cons(" + x.s + ", " + x.s + ")"},
		{with(typed(list, 0, node(api.TCase, x.t)), first, api.Clause{Names: []string{"p", "q"}, Body: one}),
			"case list(" + x.s + ") { Nil() => " + x.s + ", Cons(p, q) => 1 }"},
		{typed(stream, 0, node(api.TDtor, x.t)), x.s + ".Head()"},
		{typed(fn, 0, node(api.TDtor, one, x.t, x.t)), x.s + ".Ap(1, " + x.s + ")"},
		{with(typed(stream, 0, node(api.TCocase)), first, second), "cocase stream { Head() => " + x.s + ", Tail() => 1 }"},
		{with(typed(stream, 0, node(api.TCocase)), second, first), "cocase stream { Head() => 1, Tail() => " + x.s + " }"},
		{named("z", node(api.TLet, x.t, x.t)), "let(z : int = " + x.s + ", " + x.s + ")"},
		{typed(0, 1, node(api.TCall, x.t, x.t)), "f(" + x.s + ", " + x.s + ")"},
		{node(api.TEmit, x.t, x.t), "emit(" + x.s + ", " + x.s + ")"},
		{named("k", node(api.TLabel, x.t)), "label(k : int, " + x.s + ")"},
		{named("k", typed(stream, 0, node(api.TGoto, x.t))), "goto(k, " + x.s + " : stream)"},
	}
}

// allSamples returns the samples, alone and within each other.
func allSamples() []sample {
	l := samples()
	for _, x := range samples() {
		l = append(l, around(x)...)
	}
	return l
}

// numbers yields a fixed sequence of numbers below n that shows no short pattern.
type numbers uint64

func (s *numbers) below(n int) int {
	*s = *s*6364136223846793005 + 1442695040888963407
	return int(uint64(*s>>33) % uint64(n))
}

func pick[T any](s *numbers, l []T) T {
	return l[s.below(len(l))]
}

// integer returns an integer of any length.
func (s *numbers) integer() int {
	return (s.below(1<<30)<<34 ^ s.below(1<<30)<<17 ^ s.below(1<<30)) >> s.below(64) * (1 - 2*s.below(2))
}

// term returns a valid term in program, with these variables and labels in scope, in which the sequence decides about everything else.
func (s *numbers) term(depth int, vars, labels []string) api.Term {
	next := func(bound ...string) api.Term {
		return s.term(depth-1, append(vars[:len(vars):len(vars)], bound...), labels)
	}
	clause := func(bound ...string) api.Clause {
		return api.Clause{Names: bound, Body: next(bound...)}
	}
	op := s.below(13)
	if depth <= 1 {
		op = s.below(2)
	}
	name := pick(s, []string{"x", "y", "k", "list", "f", "x0", "headoflist"})
	switch op {
	case api.TVar:
		return v(pick(s, vars))
	case api.TInt:
		return num(s.integer())
	case api.TPrim:
		return typed(0, s.below(7), node(op, next(), next()))
	case api.TIfz:
		return node(op, next(), next(), next())
	case api.TCon:
		return typed(list, 1, node(op, next(), next()))
	case api.TCase:
		return with(typed(list, 0, node(op, next())), clause(), clause(name, "b"))
	case api.TDtor:
		if s.below(2) == 0 {
			return typed(fn, 0, node(op, next(), next(), next()))
		}
		return typed(stream, s.below(2), node(op, next()))
	case api.TCocase:
		if s.below(2) == 0 {
			return with(typed(fn, 0, node(op)), clause("b", name))
		}
		return with(typed(stream, 0, node(op)), clause(), clause())
	case api.TLet:
		return named(name, typed(s.below(4), 0, node(op, next(), next(name))))
	case api.TCall:
		return typed(0, 1, node(op, next(), next()))
	case api.TEmit:
		return node(op, next(), next())
	case api.TLabel:
		body := s.term(depth-1, vars, append(labels[:len(labels):len(labels)], name))
		return named(name, typed(s.below(4), 0, node(op, body)))
	}
	return named(pick(s, labels), typed(s.below(4), 0, node(op, next())))
}

// squeezed returns s without blanks and line feeds.
func squeezed(s string) string {
	return strings.NewReplacer(" ", "", "\n", "").Replace(s)
}
