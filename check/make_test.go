package check_test

import (
	"testing"

	"chiasmus/api"
	"chiasmus/text"
)

// The types that declText declares.
const (
	list = 1 + iota
	stream
	fn
	pair
)

const declText = `data list { Nil(), Cons(int, list) }
codata stream { Head(~int), Tail(~stream) }
codata fn { Ap(int, list, ~stream) }
data pair { Pair(stream, fn) }
`

// none stands for the type of a term that has no type.
const none = -1

// params has a variable of each type but pair, which the function f of program has as parameters.
func params() []api.Param {
	return []api.Param{{Name: "x"}, {Name: "l", Type: list}, {Name: "s", Type: stream}, {Name: "g", Type: fn}}
}

func parse(t *testing.T, s string) api.Prog {
	t.Helper()
	p, e := text.Parse(declText + s)
	if e != api.OK {
		t.Fatalf("%s: %d", s, e)
	}
	return p
}

// program returns a program whose second function, f, has the given result type and body.
func program(t *testing.T, result, body string) api.Prog {
	t.Helper()
	return parse(t, "fun main(n : int) : int = n;"+
		"fun f(x : int, l : list, s : stream, g : fn) : "+result+" = "+body+";"+
		"fun two(a : int, b : stream) : pair = Pair(b, cocase fn { Ap(i, j) => b });"+
		"fun same(n : int) : stream = cocase stream { Head() => n, Tail() => same(n) };")
}

func typeNames() []string {
	return []string{"int", "list", "stream", "fn", "pair"}
}
