package kind_test

import (
	"strconv"
	"strings"
	"testing"

	"chiasmus/api"
	"chiasmus/core"
	"chiasmus/sample"
)

// The types that declText declares.
const (
	list = 1 + iota
	stream
	mixed
	fn
)

const declText = `data list { Nil(), Cons(int, list) }
codata stream { Head(~int), Tail(~stream) }
data mixed { Mix(~int, int, ~list), Held(~stream) }
codata fn { Ap(int, list, ~int), Both(~int, ~list) }
`

// none stands for the type of a node that is not well-typed.
const none = -1

func typeNames() []string {
	return []string{"int", "list", "stream", "mixed", "fn"}
}

// numbers are those of the variables in scope: x0 to x4 and a0 to a4. The type of each is its number.
func numbers() []int {
	return []int{0, 1, 2, 3, 4}
}

func types() [2][]int {
	return [2][]int{numbers(), numbers()}
}

// scope is what is in scope, for the maker of nodes.
func scope() []sample.Variable {
	var out []sample.Variable
	for _, n := range numbers() {
		out = append(out, sample.Variable{N: n, Arg: api.Arg{Type: n}}, sample.Variable{N: n, Arg: api.Arg{Type: n, Co: true}})
	}
	return out
}

func parse(t *testing.T, s string) api.Core {
	t.Helper()
	c, e := core.Parse(declText + s)
	if e != api.OK {
		t.Fatalf("%s: %d", s, e)
	}
	return c
}

// program returns a program in which k stands where all variables are in scope.
func program(t *testing.T, k string) api.Core {
	t.Helper()
	return parse(t, "fun main(x0 : int) = done(x0);\nfun f(x0 : list, a0 : stream, x1 : int, a1 : int) = "+around(k)+";\n")
}

// around returns a command that binds the variables in k, and is well-typed if k is.
func around(k string) string {
	for n, typ := range typeNames() {
		s := strconv.Itoa(n)
		k = "cut(" + typ + ", mu(a9 : " + typ + ", done(1)), comu(x" + s + " : " + typ + ", " + k + "))"
		k = "cut(" + typ + ", mu(a" + s + " : " + typ + ", " + k + "), comu(x9 : " + typ + ", done(1)))"
	}
	return k
}

// place returns where a program has the command that the others are around.
func place(c api.Core) *api.Node {
	k := &c.Funs[1].Body
	for range typeNames() {
		k = &k.Args[0].Args[0]
		k = &k.Args[1].Args[0]
	}
	return k
}

// cutOf returns a cut, and the position in it, of a producer or a consumer.
func cutOf(s, typ string) (k string, position int) {
	if isConsumer(s) {
		return "cut(" + typ + ", mu(a9 : " + typ + ", done(1)), " + s + ")", 1
	}
	return "cut(" + typ + ", " + s + ", comu(x9 : " + typ + ", done(1)))", 0
}

func isConsumer(s string) bool {
	for _, begin := range []string{"a", "comu(", "Head(", "Tail(", "Ap(", "Both(", "match list", "match mixed"} {
		if strings.HasPrefix(s, begin) {
			return true
		}
	}
	return false
}

func isCommand(s string) bool {
	for _, begin := range []string{"cut(", "prim(", "ifz(", "emit(", "call ", "done("} {
		if strings.HasPrefix(s, begin) {
			return true
		}
	}
	return false
}

// read returns the node with a string in which all variables are in scope.
func read(t *testing.T, s string) api.Node {
	t.Helper()
	if isCommand(s) {
		return *place(program(t, s))
	}
	k, i := cutOf(s, "int")
	return place(program(t, k)).Args[i]
}

func num(n int) api.Node {
	return api.Node{Op: api.PInt, N: n}
}

func x(n int) api.Node {
	return api.Node{Op: api.PVar, N: n}
}

func a(n int) api.Node {
	return api.Node{Op: api.CVar, N: n}
}

func done(p api.Node) api.Node {
	return api.Node{Op: api.KDone, Args: []api.Node{p}}
}

func emit(p, k api.Node) api.Node {
	return api.Node{Op: api.KEmit, Args: []api.Node{p, k}}
}

func cut(typ int, p, c api.Node) api.Node {
	return api.Node{Op: api.KCut, Type: typ, Args: []api.Node{p, c}}
}

// made returns producers, consumers and commands in the scope of all variables. With an oddity, not all of them are well-typed.
func made(t *testing.T, seed sample.Numbers, oddity, count int) []api.Node {
	t.Helper()
	m := sample.NewCoreMaker(program(t, "done(1)"), &seed, oddity)
	var out []api.Node
	for range count {
		depth, typ := 1+m.Below(5), m.Below(len(typeNames()))
		switch m.Below(3) {
		case 0:
			out = append(out, m.Producer(depth, typ, scope()))
		case 1:
			out = append(out, m.Consumer(depth, typ, scope()))
		case 2:
			out = append(out, m.Command(depth, scope()))
		}
	}
	return out
}
