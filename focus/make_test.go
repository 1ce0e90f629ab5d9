package focus_test

import (
	"testing"

	"chiasmus/api"
	"chiasmus/core"
	"chiasmus/focus"
	"chiasmus/kind"
	"chiasmus/sample"
)

// The types that declText declares. Xtors of data types and of codata types take producers and consumers of types of both polarities.
const declText = `data list { Nil(), Cons(int, list) }
codata stream { Head(~int), Tail(~stream) }
data mixed { Mix(~int, int, ~stream, list), Held(~fn, stream, mixed) }
codata fn { Ap(int, list, ~int), Both(~fn, mixed, ~stream), Over(stream, ~list, ~fn) }
`

const headText = `fun main(x0 : int, x1 : int) = done(x0);
fun f(a0 : stream, x0 : list, x1 : stream, a1 : list) = done(1);
fun g(x0 : int, a0 : fn, x1 : mixed, a1 : mixed, a2 : int, x2 : fn) = done(1);
`

func parse(t *testing.T, s string) api.Core {
	t.Helper()
	c, e := core.Parse(declText + s)
	if e != api.OK {
		t.Fatalf("%s: %d", s, e)
	}
	return c
}

// program returns a program with variables of all types in scope: x0 and a0 of integers, x1 and a1 of lists, x2 and a2 of streams, x3 of mixed and a3 of fn.
func program(t *testing.T, k string) api.Core {
	t.Helper()
	return parse(t, "fun main() = done(0);\nfun f(a0 : stream, x0 : list) = done(1);\nfun g(x0 : stream, a0 : list) = done(2);\n"+
		"fun h(x0 : int, a0 : int, x1 : list, a1 : list, x2 : stream, a2 : stream) = "+
		"cut(mixed, mu(a9 : mixed, done(3)), comu(x3 : mixed, cut(fn, mu(a3 : fn, "+k+"), comu(x9 : fn, done(4)))));\n")
}

// text returns the string of a program for a message, if it has a short one.
func text(c api.Core) string {
	s, e := core.String(c)
	if e != api.OK || len(s) > 4000 {
		return "a program with a long string"
	}
	return s
}

func focused(t *testing.T, c api.Core) api.Core {
	t.Helper()
	out, e := focus.Focus(c)
	if e != api.OK {
		t.Fatalf("%s: %d", text(c), e)
	}
	return out
}

func isFocused(t *testing.T, c api.Core) bool {
	t.Helper()
	is, e := focus.Focused(c)
	if e != api.OK {
		t.Fatalf("%s: %d", text(c), e)
	}
	return is
}

func same(t *testing.T, c, d api.Core) bool {
	t.Helper()
	is, e := core.Equal(c, d)
	if e != api.OK {
		t.Fatal(e)
	}
	return is
}

// made returns well-typed programs with bodies of the depths 2 to deepest, the same ones for the same seed.
func made(t *testing.T, seed sample.Numbers, deepest, count int) []api.Core {
	t.Helper()
	m := sample.NewCoreMaker(parse(t, headText), &seed, 0)
	var out []api.Core
	for len(out) < count {
		c := m.Core(2 + m.Below(deepest-1))
		if kind.Check(c) == api.OK {
			out = append(out, c)
		}
	}
	return out
}

func num(n int) api.Node {
	return api.Node{Op: api.PInt, N: n}
}

func done(p api.Node) api.Node {
	return api.Node{Op: api.KDone, Args: []api.Node{p}}
}

func emit(p, k api.Node) api.Node {
	return api.Node{Op: api.KEmit, Args: []api.Node{p, k}}
}

func cons(p, q api.Node) api.Node {
	return api.Node{Op: api.PXtor, N: 1, Type: 1, Args: []api.Node{p, q}}
}

// mu returns a producer that runs k.
func mu(typ int, k api.Node) api.Node {
	return api.Node{Op: api.PMu, Type: typ, Args: []api.Node{k}}
}

// comu returns a consumer that runs k.
func comu(typ int, k api.Node) api.Node {
	return api.Node{Op: api.CMu, Type: typ, Args: []api.Node{k}}
}

func cut(typ int, p, c api.Node) api.Node {
	return api.Node{Op: api.KCut, Type: typ, Args: []api.Node{p, c}}
}
