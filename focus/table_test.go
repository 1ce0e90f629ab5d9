package focus_test

import (
	"testing"

	"chiasmus/api"
)

// focusing is a command with all variables of program in scope, and what it becomes: the same command if that is empty.
type focusing struct{ name, command, want string }

// passing has commands that apply nothing, or only to values.
var passing = [...]focusing{
	{"a value", "done(3)", ""},
	{"a variable", "emit(x0, done(x0))", ""},
	{"integers", "prim(*, 1, x0, a0)", ""},
	{"a consumer of a prim", "prim(*, 1, x0, comu(x9 : int, done(x9)))", ""},
	{"what a cut passes", "cut(int, mu(a9 : int, done(1)), comu(x9 : int, done(2)))", ""},
	{"what a cut of streams passes", "cut(stream, mu(a9 : stream, done(1)), comu(x9 : stream, done(2)))", ""},
	{"a constructor of values", "cut(list, Cons(1, Cons(x0, x1)), a1)", ""},
	{"a destructor of values", "cut(stream, x2, Tail(Tail(Head(a0))))", ""},
	{"an object and an analysis", "call g(match stream { Head(a9) => done(1), Tail(a9) => done(2) }, match list { Nil() => done(3), Cons(x8, x9) => done(4) })", ""},
	{"the other polarity", "call g(mu(a9 : stream, done(1)), comu(x9 : list, done(2)))", ""},
	{"the other polarity in a constructor", "cut(mixed, Mix(comu(x9 : int, done(1)), 2, Tail(a2), Nil()), comu(x9 : mixed, done(3)))", ""},
	{"the other polarity in a destructor", "cut(fn, mu(a9 : fn, done(1)), Over(mu(a8 : stream, done(2)), comu(x8 : list, done(3)), a3))", ""},
	{"a consumer of integers", "cut(stream, x2, Head(comu(x9 : int, done(x9))))", ""},
}

// naming has commands with serious arguments.
var naming = [...]focusing{
	{"the first of a prim",
		"prim(+, mu(a9 : int, done(1)), 2, a0)",
		"cut(int, mu(a9 : int, done(1)), comu(x9 : int, prim(+, x9, 2, a0)))"},
	{"the second of a prim",
		"prim(-, x0, mu(a9 : int, done(1)), a0)",
		"cut(int, mu(a9 : int, done(1)), comu(x9 : int, prim(-, x0, x9, a0)))"},
	{"both of a prim",
		"prim(-, mu(a9 : int, done(1)), mu(a9 : int, done(2)), comu(x8 : int, done(x8)))",
		"cut(int, mu(a9 : int, done(1)), comu(x8 : int, cut(int, mu(a9 : int, done(2)), comu(x9 : int, prim(-, x8, x9, comu(x8 : int, done(x8)))))))"},
	{"an ifz",
		"ifz(mu(a9 : int, done(1)), cut(int, x0, a0), done(x0))",
		"cut(int, mu(a9 : int, done(1)), comu(x9 : int, ifz(x9, cut(int, x0, a0), done(x0))))"},
	{"an emit",
		"emit(mu(a9 : int, done(1)), cut(int, x0, a0))",
		"cut(int, mu(a9 : int, done(1)), comu(x9 : int, emit(x9, cut(int, x0, a0))))"},
	{"a done",
		"done(mu(a9 : int, cut(int, x0, a9)))",
		"cut(int, mu(a9 : int, cut(int, x0, a9)), comu(x9 : int, done(x9)))"},
	{"a call",
		"call f(comu(x9 : stream, cut(stream, x9, a2)), mu(a9 : list, cut(list, x1, a9)))",
		"cut(stream, mu(a8 : stream, cut(list, mu(a9 : list, cut(list, x1, a9)), comu(x8 : list, call f(a8, x8)))), comu(x9 : stream, cut(stream, x9, a2)))"},
	{"values beside it",
		"call f(Tail(a2), mu(a9 : list, done(1)))",
		"cut(list, mu(a9 : list, done(1)), comu(x9 : list, call f(Tail(a2), x9)))"},
	{"a constructor",
		"cut(list, Cons(mu(a0 : int, done(1)), mu(a1 : list, done(2))), a1)",
		"cut(int, mu(a0 : int, done(1)), comu(x8 : int, cut(list, mu(a9 : list, done(2)), comu(x9 : list, cut(list, Cons(x8, x9), a1)))))"},
	{"a destructor",
		"cut(stream, x2, Tail(comu(x9 : stream, cut(stream, x9, a2))))",
		"cut(stream, mu(a9 : stream, cut(stream, x2, Tail(a9))), comu(x9 : stream, cut(stream, x9, a2)))"},
	{"all of a destructor",
		"cut(fn, mu(a9 : fn, done(1)), Both(comu(x9 : fn, done(2)), mu(a9 : mixed, done(3)), comu(x9 : stream, done(4))))",
		"cut(fn, mu(a8 : fn, cut(mixed, mu(a9 : mixed, done(3)), comu(x8 : mixed, cut(stream, mu(a7 : stream, cut(fn, mu(a9 : fn, done(1)), Both(a8, x8, a7))), comu(x9 : stream, done(4)))))), comu(x9 : fn, done(2)))"},
	{"a constructor with consumers",
		"cut(mixed, Mix(a0, mu(a9 : int, done(1)), comu(x9 : stream, done(2)), mu(a9 : list, done(3))), comu(x9 : mixed, done(4)))",
		"cut(int, mu(a9 : int, done(1)), comu(x7 : int, cut(stream, mu(a8 : stream, cut(list, mu(a9 : list, done(3)), comu(x8 : list, cut(mixed, Mix(a0, x7, a8, x8), comu(x9 : mixed, done(4)))))), comu(x9 : stream, done(2)))))"},
}

// nesting has serious arguments in others, in values and in commands.
var nesting = [...]focusing{
	{"an xtor in a call",
		"call f(a2, Cons(1, mu(a9 : list, done(1))))",
		"cut(list, mu(a9 : list, done(1)), comu(x9 : list, call f(a2, Cons(1, x9))))"},
	{"from left to right, not from the inside",
		"cut(list, Cons(mu(a9 : int, done(1)), Cons(mu(a9 : int, done(2)), Cons(3, mu(a9 : list, done(4))))), a1)",
		"cut(int, mu(a9 : int, done(1)), comu(x7 : int, cut(int, mu(a9 : int, done(2)), comu(x8 : int, cut(list, mu(a9 : list, done(4)), comu(x9 : list, cut(list, Cons(x7, Cons(x8, Cons(3, x9))), a1)))))))"},
	{"the inside of an earlier one",
		"call f(Tail(Tail(comu(x9 : stream, done(1)))), Cons(mu(a9 : int, done(2)), Nil()))",
		"cut(stream, mu(a9 : stream, cut(int, mu(a8 : int, done(2)), comu(x8 : int, call f(Tail(Tail(a9)), Cons(x8, Nil()))))), comu(x9 : stream, done(1)))"},
	{"a destructor in a constructor",
		"cut(mixed, Held(Both(a3, mu(a9 : mixed, done(1)), Tail(comu(x9 : stream, done(2)))), mu(a9 : stream, done(3)), x3), comu(x9 : mixed, done(4)))",
		"cut(mixed, mu(a9 : mixed, done(1)), comu(x8 : mixed, cut(stream, mu(a8 : stream, cut(mixed, Held(Both(a3, x8, Tail(a8)), mu(a9 : stream, done(3)), x3), comu(x9 : mixed, done(4)))), comu(x9 : stream, done(2)))))"},
	{"what is named",
		"done(mu(a9 : int, prim(+, mu(a8 : int, done(1)), x0, a9)))",
		"cut(int, mu(a9 : int, cut(int, mu(a8 : int, done(1)), comu(x9 : int, prim(+, x9, x0, a9)))), comu(x9 : int, done(x9)))"},
	{"what is named as a consumer",
		"cut(stream, x2, Tail(comu(x9 : stream, done(mu(a9 : int, done(1))))))",
		"cut(stream, mu(a9 : stream, cut(stream, x2, Tail(a9))), comu(x9 : stream, cut(int, mu(a9 : int, done(1)), comu(x8 : int, done(x8)))))"},
	{"what is not named",
		"call g(mu(a9 : stream, done(mu(a8 : int, done(1)))), comu(x9 : list, done(mu(a8 : int, done(2)))))",
		"call g(mu(a9 : stream, cut(int, mu(a8 : int, done(1)), comu(x8 : int, done(x8)))), comu(x9 : list, cut(int, mu(a8 : int, done(2)), comu(x8 : int, done(x8)))))"},
	{"what a cut passes",
		"cut(int, mu(a9 : int, done(mu(a8 : int, done(1)))), comu(x9 : int, done(mu(a8 : int, done(2)))))",
		"cut(int, mu(a9 : int, cut(int, mu(a8 : int, done(1)), comu(x8 : int, done(x8)))), comu(x9 : int, cut(int, mu(a8 : int, done(2)), comu(x8 : int, done(x8)))))"},
	{"the consumer of a prim",
		"prim(+, 1, 2, comu(x9 : int, done(mu(a8 : int, done(x9)))))",
		"prim(+, 1, 2, comu(x9 : int, cut(int, mu(a8 : int, done(x9)), comu(x8 : int, done(x8)))))"},
	{"the commands of an ifz",
		"ifz(x0, done(mu(a8 : int, done(1))), done(mu(a8 : int, done(2))))",
		"ifz(x0, cut(int, mu(a8 : int, done(1)), comu(x8 : int, done(x8))), cut(int, mu(a8 : int, done(2)), comu(x8 : int, done(x8))))"},
	{"the command of an emit",
		"emit(1, done(mu(a8 : int, done(2))))",
		"emit(1, cut(int, mu(a8 : int, done(2)), comu(x8 : int, done(x8))))"},
	{"an analysis",
		"cut(list, x1, match list { Nil() => done(mu(a8 : int, done(1))), Cons(x8, x9) => emit(mu(a8 : int, done(x8)), done(2)) })",
		"cut(list, x1, match list { Nil() => cut(int, mu(a8 : int, done(1)), comu(x8 : int, done(x8))), Cons(x8, x9) => cut(int, mu(a8 : int, done(x8)), comu(x7 : int, emit(x7, done(2)))) })"},
	{"an analysis of a constructor",
		"cut(list, Cons(mu(a9 : int, done(1)), x1), match list { Nil() => done(mu(a8 : int, done(2))), Cons(x8, x9) => done(x8) })",
		"cut(int, mu(a9 : int, done(1)), comu(x7 : int, cut(list, Cons(x7, x1), match list { Nil() => cut(int, mu(a8 : int, done(2)), comu(x8 : int, done(x8))), Cons(x8, x9) => done(x8) })))"},
	{"an object",
		"cut(stream, match stream { Head(a9) => prim(+, mu(a8 : int, done(1)), 2, a9), Tail(a9) => cut(stream, x2, Tail(comu(x9 : stream, cut(stream, x9, a9)))) }, a2)",
		"cut(stream, match stream { Head(a9) => cut(int, mu(a8 : int, done(1)), comu(x8 : int, prim(+, x8, 2, a9))), Tail(a9) => cut(stream, mu(a8 : stream, cut(stream, x2, Tail(a8))), comu(x9 : stream, cut(stream, x9, a9))) }, a2)"},
	{"an object that is observed",
		"cut(stream, match stream { Head(a9) => done(mu(a8 : int, done(1))), Tail(a9) => done(2) }, Tail(comu(x9 : stream, done(3))))",
		"cut(stream, mu(a7 : stream, cut(stream, match stream { Head(a9) => cut(int, mu(a8 : int, done(1)), comu(x8 : int, done(x8))), Tail(a9) => done(2) }, Tail(a7))), comu(x9 : stream, done(3)))"},
	{"an object in an argument",
		"call g(match stream { Head(a9) => done(mu(a8 : int, done(1))), Tail(a9) => done(2) }, match list { Nil() => done(mu(a8 : int, done(3))), Cons(x8, x9) => done(4) })",
		"call g(match stream { Head(a9) => cut(int, mu(a8 : int, done(1)), comu(x8 : int, done(x8))), Tail(a9) => done(2) }, match list { Nil() => cut(int, mu(a8 : int, done(3)), comu(x8 : int, done(x8))), Cons(x8, x9) => done(4) })"},
}

// capturing has free variables with the numbers that new variables could have, and others that hide them.
var capturing = [...]focusing{
	{"producers",
		"emit(mu(a9 : int, cut(int, x0, a0)), prim(+, x0, x0, comu(x1 : int, prim(+, x0, x1, a0))))",
		"cut(int, mu(a9 : int, cut(int, x0, a0)), comu(x9 : int, emit(x9, prim(+, x0, x0, comu(x1 : int, prim(+, x0, x1, a0))))))"},
	{"consumers",
		"cut(stream, mu(a1 : stream, cut(stream, x2, a2)), Tail(comu(x0 : stream, cut(list, x1, a1))))",
		"cut(stream, mu(a9 : stream, cut(stream, mu(a1 : stream, cut(stream, x2, a2)), Tail(a9))), comu(x0 : stream, cut(list, x1, a1)))"},
	{"hidden ones",
		"prim(+, mu(a0 : int, prim(+, x0, 1, a0)), mu(a0 : int, cut(int, 2, comu(x0 : int, cut(int, x0, a0)))), comu(x0 : int, cut(int, x0, a0)))",
		"cut(int, mu(a9 : int, prim(+, x0, 1, a9)), comu(x8 : int, cut(int, mu(a9 : int, cut(int, 2, comu(x9 : int, cut(int, x9, a9)))), comu(x9 : int, prim(+, x8, x9, comu(x0 : int, cut(int, x0, a0)))))))"},
	{"the largest number",
		"cut(int, 1, comu(x1048576 : int, emit(mu(a1048576 : int, prim(+, x1048576, 2, a1048576)), done(x1048576))))",
		"cut(int, 1, comu(x7 : int, cut(int, mu(a8 : int, prim(+, x7, 2, a8)), comu(x8 : int, emit(x8, done(x7))))))"},
}

func all() []focusing {
	var out []focusing
	out = append(out, passing[:]...)
	out = append(out, naming[:]...)
	out = append(out, nesting[:]...)
	return append(out, capturing[:]...)
}

func TestP9_1Table(t *testing.T) {
	for _, c := range all() {
		if got := isFocused(t, program(t, c.command)); got != (c.want == "") {
			t.Errorf("%s: %v for %s", c.name, got, c.command)
		}
		if c.want != "" && !isFocused(t, program(t, c.want)) {
			t.Errorf("%s: false for %s", c.name, c.want)
		}
	}
}

func TestP9_2Table(t *testing.T) {
	for _, c := range all() {
		want := c.want
		if want == "" {
			want = c.command
		}
		if got := focused(t, program(t, c.command)); !same(t, got, program(t, want)) {
			t.Errorf("%s: %s", c.name, text(got))
		}
	}
}

// The bodies of all functions count, also of those that main does not call, and the variables of their parameters keep their places.
func TestP9Functions(t *testing.T) {
	const serious = "prim(+, mu(a1 : int, cut(int, x5, a1)), x5, comu(x9 : int, done(x9)))"
	const named = "cut(int, mu(a1 : int, cut(int, x5, a1)), comu(x1 : int, prim(+, x1, x5, comu(x9 : int, done(x9)))))"
	for name, c := range map[string]struct{ from, to string }{
		"main":     {"fun main(x3 : int, x5 : int) = " + serious + ";\nfun f() = done(1);\n", "fun main(x3 : int, x5 : int) = " + named + ";\nfun f() = done(1);\n"},
		"the last": {"fun main() = done(1);\nfun f(a2 : fn, x3 : int, x5 : int, a3 : int) = " + serious + ";\n", "fun main() = done(1);\nfun f(a2 : fn, x3 : int, x5 : int, a3 : int) = " + named + ";\n"},
		"both":     {"fun main(x5 : int) = " + serious + ";\nfun f(x5 : int) = " + serious + ";\n", "fun main(x5 : int) = " + named + ";\nfun f(x5 : int) = " + named + ";\n"},
	} {
		if isFocused(t, parse(t, c.from)) || !isFocused(t, parse(t, c.to)) {
			t.Errorf("%s: Focused", name)
		}
		if got := focused(t, parse(t, c.from)); !same(t, got, parse(t, c.to)) {
			t.Errorf("%s: %s", name, text(got))
		}
	}
	c := api.Core{Funs: []api.CoreFun{{Name: "main", Body: done(mu(0, done(num(1))))}}}
	if isFocused(t, c) || !isFocused(t, focused(t, c)) {
		t.Error("without declarations")
	}
}
