package core_test

import (
	"testing"

	"chiasmus/api"
	"chiasmus/core"
	"chiasmus/sample"
)

// The types that declText declares.
const (
	list = 1 + iota
	stream
	mixed
	fn
)

const declText = `data list { Nil(), Cons(int, list) }
codata stream { Head(~int), Tail(~stream) }
data mixed { Mix(~int, int, ~list), Held(~stream) }
codata fn { Ap(int, list, ~int), Both(~int, ~list) }
`

func parsed(t *testing.T, s string) api.Core {
	t.Helper()
	c, e := core.Parse(s)
	if e != api.OK {
		t.Fatalf("%d: %s", e, s)
	}
	return c
}

// program returns a program of which the body of main is k.
func program(t *testing.T, k api.Node) api.Core {
	t.Helper()
	c := parsed(t, declText+"fun main(x0 : int) = done(0);\nfun f(x0 : list, a0 : int, x1 : int) = done(x1);\n")
	c.Funs[0].Body = k
	return c
}

func node(op int, args ...api.Node) api.Node {
	return api.Node{Op: op, Args: args}
}

func typed(typ, n int, x api.Node) api.Node {
	x.Type, x.N = typ, n
	return x
}

func with(x api.Node, branches ...api.Branch) api.Node {
	x.Branches = branches
	return x
}

func x(n int) api.Node   { return typed(0, n, node(api.PVar)) }
func a(n int) api.Node   { return typed(0, n, node(api.CVar)) }
func num(n int) api.Node { return typed(0, n, node(api.PInt)) }

func mu(n, typ int, k api.Node) api.Node   { return typed(typ, n, node(api.PMu, k)) }
func comu(n, typ int, k api.Node) api.Node { return typed(typ, n, node(api.CMu, k)) }

func con(typ, n int, args ...api.Node) api.Node  { return typed(typ, n, node(api.PXtor, args...)) }
func dtor(typ, n int, args ...api.Node) api.Node { return typed(typ, n, node(api.CXtor, args...)) }

func object(typ int, l ...api.Branch) api.Node { return with(typed(typ, 0, node(api.PMatch)), l...) }
func match(typ int, l ...api.Branch) api.Node  { return with(typed(typ, 0, node(api.CMatch)), l...) }

func cut(typ int, p, c api.Node) api.Node   { return typed(typ, 0, node(api.KCut, p, c)) }
func prim(n int, l ...api.Node) api.Node    { return typed(0, n, node(api.KPrim, l...)) }
func ifz(p, k, l api.Node) api.Node         { return node(api.KIfz, p, k, l) }
func emit(p, k api.Node) api.Node           { return node(api.KEmit, p, k) }
func call(n int, args ...api.Node) api.Node { return typed(0, n, node(api.KCall, args...)) }
func done(p api.Node) api.Node              { return node(api.KDone, p) }

// branch returns a branch of which the variables are producers where vars is positive: n stands for x and n - 1, -n for a and n - 1.
func branch(body api.Node, vars ...int) api.Branch {
	b := api.Branch{Body: body}
	for _, n := range vars {
		b.Vars = append(b.Vars, max(n, -n)-1)
		b.Co = append(b.Co, n < 0)
	}
	return b
}

// example is a node, valid where x0 is an integer, and its string.
type example struct {
	n api.Node
	s string
}

// examples returns commands, producers and consumers, of every operator.
func examples() []example {
	end := done(num(1))
	return []example{
		{x(0), "x0"},
		{num(0), "0"},
		{num(-7), "-7"},
		{num(1<<63 - 1), "9223372036854775807"},
		{num(-1 << 63), "-9223372036854775808"},
		{con(list, 0), "Nil()"},
		{con(list, 1, x(0), num(2)), "Cons(x0, 2)"},
		{con(mixed, 0, comu(3, 0, end), x(0), comu(0, list, end)), "Mix(comu(x3 : int, done(1)), x0, comu(x0 : list, done(1)))"},
		{mu(5, stream, done(x(0))), "mu(a5 : stream, done(x0))"},
		{mu(5, 0, cut(0, x(0), a(5))), "mu(a5 : int, cut(int, x0, a5))"},
		{object(stream, branch(cut(0, num(1), a(0)), -1), branch(cut(stream, num(2), a(7)), -8)),
			"match stream { Head(a0) => cut(int, 1, a0), Tail(a7) => cut(stream, 2, a7) }"},
		{object(fn, branch(done(x(4)), 1, 5, -1), branch(end, -3, -api.MaxVar-1)),
			"match fn { Ap(x0, x4, a0) => done(x4), Both(a2, a1048576) => done(1) }"},
		{mu(0, 0, cut(0, num(1), a(0))), "mu(a0 : int, cut(int, 1, a0))"},
		{dtor(stream, 1, comu(0, stream, end)), "Tail(comu(x0 : stream, done(1)))"},
		{dtor(fn, 0, x(0), num(-1), comu(9, 0, done(x(9)))), "Ap(x0, -1, comu(x9 : int, done(x9)))"},
		{comu(0, mixed, done(x(0))), "comu(x0 : mixed, done(x0))"},
		{comu(api.MaxVar, 0, done(x(api.MaxVar))), "comu(x1048576 : int, done(x1048576))"},
		{match(list, branch(end), branch(done(x(2)), 2, 3)), "match list { Nil() => done(1), Cons(x1, x2) => done(x2) }"},
		{match(mixed, branch(cut(0, x(1), a(1)), -2, 2, -1), branch(end, -1)),
			"match mixed { Mix(a1, x1, a0) => cut(int, x1, a1), Held(a0) => done(1) }"},
		{cut(0, num(1), comu(1, 0, done(x(1)))), "cut(int, 1, comu(x1 : int, done(x1)))"},
		{cut(fn, mu(0, list, end), comu(1, stream, end)), "cut(fn, mu(a0 : list, done(1)), comu(x1 : stream, done(1)))"},
		{ifz(x(0), end, done(x(0))), "ifz(x0, done(1), done(x0))"},
		{emit(num(3), end), "emit(3, done(1))"},
		{call(0, num(1)), "call main(1)"},
		{call(1, con(list, 0), comu(1, 0, end), x(0)), "call f(Nil(), comu(x1 : int, done(1)), x0)"},
		{done(x(0)), "done(x0)"},
		{prim(api.Add, x(0), num(-1), comu(1, 0, end)), "prim(+, x0, -1, comu(x1 : int, done(1)))"},
		{prim(api.Sub, x(0), num(-1), comu(1, 0, end)), "prim(-, x0, -1, comu(x1 : int, done(1)))"},
		{prim(api.Mul, x(0), num(-1), comu(1, 0, end)), "prim(*, x0, -1, comu(x1 : int, done(1)))"},
		{prim(api.Div, x(0), num(-1), comu(1, 0, end)), "prim(/, x0, -1, comu(x1 : int, done(1)))"},
		{prim(api.Mod, x(0), num(-1), comu(1, 0, end)), "prim(%, x0, -1, comu(x1 : int, done(1)))"},
		{prim(api.Eq, x(0), num(-1), comu(1, 0, end)), "prim(==, x0, -1, comu(x1 : int, done(1)))"},
		{prim(api.Lt, x(0), num(-1), comu(1, 0, end)), "prim(<, x0, -1, comu(x1 : int, done(1)))"},
	}
}

// within returns a command that contains the example, and its string.
func within(e example) example {
	switch {
	case e.n.Op <= api.PMatch:
		return example{cut(list, e.n, comu(1, 0, done(num(1)))), "cut(list, " + e.s + ", comu(x1 : int, done(1)))"}
	case e.n.Op <= api.CMatch:
		return example{cut(list, num(5), e.n), "cut(list, 5, " + e.s + ")"}
	}
	return e
}

// mains returns the string of program(k), for the string of k.
func mains(k string) string {
	return declText + "fun main(x0 : int) = " + k + ";\nfun f(x0 : list, a0 : int, x1 : int) = done(x1);\n"
}

// wild returns a node that need not be valid: any fields, and any numbers from a few.
func wild(s *sample.Numbers, depth int) api.Node {
	n := api.Node{Op: s.Below(22) - 2, N: wildNumber(s), Type: s.Below(3)}
	switch {
	case s.Below(3) == 0:
		n.Op = sample.Pick(s, []int{api.PMu, api.CMu, api.PMatch, api.CMatch})
	case depth <= 1 || s.Below(4) == 0:
		n.Op = sample.Pick(s, []int{api.PVar, api.CVar})
	}
	if depth <= 1 {
		return n
	}
	for range s.Below(4) {
		n.Args = append(n.Args, wild(s, depth-1))
	}
	for range s.Below(3) {
		b := api.Branch{Body: wild(s, depth-1)}
		for range s.Below(5) {
			b.Vars = append(b.Vars, wildNumber(s))
		}
		for range s.Below(5) {
			b.Co = append(b.Co, s.Below(2) == 0)
		}
		n.Branches = append(n.Branches, b)
	}
	return n
}

func wildNumber(s *sample.Numbers) int {
	return sample.Pick(s, []int{0, 1, 2, 3, 0, 1, 2, 3, api.MaxVar})
}

// made returns valid programs with any bodies.
func made(t *testing.T, seed sample.Numbers, oddity, count int) []api.Core {
	t.Helper()
	m := sample.NewCoreMaker(program(t, done(num(0))), &seed, oddity)
	var out []api.Core
	for len(out) < count {
		c := m.Core(2 + m.Below(7))
		if core.Check(c) == api.OK {
			out = append(out, c)
		}
	}
	return out
}
