package step_test

import (
	"slices"
	"testing"

	"chiasmus/api"
	"chiasmus/core"
	"chiasmus/kind"
	"chiasmus/sample"
	"chiasmus/step"
)

// The types that declText declares. Xtors of data types and of codata types take producers and consumers of types of both polarities.
const declText = `data list { Nil(), Cons(int, list) }
codata stream { Head(~int), Tail(~stream) }
data mixed { Mix(~int, int, ~stream, list), Held(~fn, stream, mixed) }
codata fn { Ap(int, list, ~int), Both(~fn, mixed, ~stream), Over(stream, ~list, ~fn) }
`

// funText has functions with parameters of both sorts. Only g is not focused.
const funText = `fun main(x0 : int, x1 : int) = prim(-, x0, x1, comu(x0 : int, done(x0)));
fun f(a0 : stream, x0 : list, x1 : stream, a1 : list) = ifz(1, cut(stream, x1, a0), cut(list, x0, a1));
fun g(x0 : int, a0 : int) = prim(+, mu(a1 : int, cut(int, x0, a1)), x0, a0);
`

func parse(t *testing.T, s string) api.Core {
	t.Helper()
	c, e := core.Parse(declText + s)
	if e != api.OK {
		t.Fatalf("%s: %d", s, e)
	}
	return c
}

// program returns a program with the functions of funText, and one more with a command, which is returned, too.
func program(t *testing.T, k string) (api.Core, api.Node) {
	t.Helper()
	c := parse(t, funText+"fun k() = "+k+";\n")
	return c, c.Funs[len(c.Funs)-1].Body
}

// text returns the string of a program for a message, if it has a short one.
func text(c api.Core) string {
	s, e := core.String(c)
	if e != api.OK || len(s) > 4000 {
		return "a program with a long string"
	}
	return s
}

// shown returns the string of a command of c for a message.
func shown(c api.Core, k api.Node) string {
	c.Funs = slices.Clone(c.Funs)
	c.Funs[0].Body = k
	return text(c)
}

func start(t *testing.T, c api.Core, inputs []int) api.Node {
	t.Helper()
	k, e := step.Start(c, inputs)
	if e != api.OK {
		t.Fatalf("%s: %d", text(c), e)
	}
	return k
}

func sameRun(a, b api.Run) bool {
	return a.End == b.End && a.Val == b.Val && slices.Equal(a.Outs, b.Outs) && a.Steps == b.Steps
}

// made returns well-typed programs with bodies of the depths 2 to deepest, the same ones for the same seed.
func made(t *testing.T, seed sample.Numbers, deepest, count int) []api.Core {
	t.Helper()
	m := sample.NewCoreMaker(parse(t, funText), &seed, 0)
	var out []api.Core
	for len(out) < count {
		c := m.Core(2 + m.Below(deepest-1))
		if kind.Check(c) == api.OK {
			out = append(out, c)
		}
	}
	return out
}

func num(n int) api.Node {
	return api.Node{Op: api.PInt, N: n}
}

func x(n int) api.Node {
	return api.Node{Op: api.PVar, N: n}
}

func done(p api.Node) api.Node {
	return api.Node{Op: api.KDone, Args: []api.Node{p}}
}

func emit(p, k api.Node) api.Node {
	return api.Node{Op: api.KEmit, Args: []api.Node{p, k}}
}

func ifz(p, k, l api.Node) api.Node {
	return api.Node{Op: api.KIfz, Args: []api.Node{p, k, l}}
}

func call(f int, args ...api.Node) api.Node {
	return api.Node{Op: api.KCall, N: f, Args: args}
}

// mu returns a producer that runs k.
func mu(typ int, k api.Node) api.Node {
	return api.Node{Op: api.PMu, Type: typ, Args: []api.Node{k}}
}

// comu returns a consumer that runs k, in which it is x0 that is consumed.
func comu(typ int, k api.Node) api.Node {
	return api.Node{Op: api.CMu, Type: typ, Args: []api.Node{k}}
}

func cut(typ int, p, c api.Node) api.Node {
	return api.Node{Op: api.KCut, Type: typ, Args: []api.Node{p, c}}
}
