package lower_test

import (
	"slices"
	"testing"

	"chiasmus/api"
	"chiasmus/lower"
)

// The body of a function f in the scope of a variable of each type, and what it becomes.
var table = []struct{ name, result, body, want string }{
	{"a variable", "int", "x", "x0"},
	{"a stream", "stream", "s", "x2"},
	{"an integer", "int", "-7", "-7"},
	{"an operation", "int", "(x - 2)", "mu(a1 : int, prim(-, x0, 2, a1))"},
	{"operations", "int", "((x * 2) < 3)", "mu(a1 : int, prim(<, mu(a2 : int, prim(*, x0, 2, a2)), 3, a1))"},
	{"ifz", "int", "ifz(x, 1, 2)", "mu(a1 : int, ifz(x0, cut(int, 1, a1), cut(int, 2, a1)))"},
	{"ifz of a type", "stream", "ifz(1, s, from(x))", "mu(a1 : stream, ifz(1, cut(stream, x2, a1), cut(stream, mu(a2 : stream, call from(x0, a2)), a1)))"},
	{"a constructor", "list", "Cons(x, l)", "Cons(x0, x1)"},
	{"constructors", "list", "Cons((1 + 2), Cons(3, Nil()))", "Cons(mu(a1 : int, prim(+, 1, 2, a1)), Cons(3, Nil()))"},
	{"a constructor of all types", "pair", "Pair(s, x, g, l)", "Pair(x2, x0, x3, x1)"},
	{"an analysis", "list", "case list(l) { Nil() => Nil(), Cons(a, b) => Cons(a, l) }",
		"mu(a1 : list, cut(list, x1, match list { Nil() => cut(list, Nil(), a1), Cons(x9, x8) => cut(list, Cons(x9, x1), a1) }))"},
	{"an analysis of another type", "int", "case pair(Single(s)) { Pair(a, b, c, d) => b, Single(x) => x.Head() }",
		"mu(a1 : int, cut(pair, Single(x2), match pair { Pair(x4, x5, x6, x7) => cut(int, x5, a1), Single(x9) => cut(int, mu(a2 : int, cut(stream, x9, Head(a2))), a1) }))"},
	{"an observation", "list", "g.Ap(l, s, x)", "mu(a1 : list, cut(fn, x3, Ap(x1, x2, x0, a1)))"},
	{"an observation of the same type", "stream", "s.Tail()", "mu(a1 : stream, cut(stream, x2, Tail(a1)))"},
	{"observations", "int", "s.Tail().Head()", "mu(a1 : int, cut(stream, mu(a2 : stream, cut(stream, x2, Tail(a2))), Head(a1)))"},
	{"an object", "stream", "cocase stream { Head() => x, Tail() => s }", "match stream { Head(a1) => cut(int, x0, a1), Tail(a2) => cut(stream, x2, a2) }"},
	{"an object with arguments", "fn", "cocase fn { Ap(a, b, x) => Cons(x, a), Get() => x, To(h) => h, Pick(s, x) => Single(x) }",
		"match fn { Ap(x10, x11, x12, a1) => cut(list, Cons(x12, x10), a1), Get(a1) => cut(int, x0, a1), To(x13, a2) => cut(fn, x13, a2), Pick(x14, x15, a1) => cut(pair, Single(x15), a1) }"},
	{"a let", "list", "let(y : int = (x + 1), Cons(y, l))",
		"mu(a1 : list, cut(int, mu(a2 : int, prim(+, x0, 1, a2)), comu(x9 : int, cut(list, Cons(x9, x1), a1))))"},
	{"a let of the same name", "int", "let(x : stream = from(x), x.Head())",
		"mu(a1 : int, cut(stream, mu(a2 : stream, call from(x0, a2)), comu(x9 : stream, cut(int, mu(a3 : int, cut(stream, x9, Head(a3))), a1))))"},
	{"a call", "stream", "from(x)", "mu(a1 : stream, call from(x0, a1))"},
	{"a call of itself", "int", "f(1, Nil(), s, g)", "mu(a1 : int, call f(1, Nil(), x2, x3, a1))"},
	{"an emission", "list", "emit(x, l)", "mu(a1 : list, emit(x0, cut(list, x1, a1)))"},
	{"emissions", "int", "emit(emit(1, 2), 3)", "mu(a1 : int, emit(mu(a2 : int, emit(1, cut(int, 2, a2))), cut(int, 3, a1)))"},
	{"a label", "list", "label(k : list, l)", "mu(a1 : list, cut(list, x1, a1))"},
	{"a jump", "list", "label(k : list, Cons(goto(k, l : int), Nil()))", "mu(a1 : list, cut(list, Cons(mu(a2 : int, cut(list, x1, a1)), Nil()), a1))"},
	{"jumps", "int", "label(k : int, label(j : stream, goto(k, goto(j, s : int) : stream)).Head())",
		"mu(a1 : int, cut(int, mu(a2 : int, cut(stream, mu(a3 : stream, cut(stream, mu(a4 : stream, cut(int, mu(a5 : int, cut(stream, x2, a3)), a1)), a3)), Head(a2))), a1))"},
	{"labels of one name", "int", "label(k : int, (goto(k, label(k : int, goto(k, 1 : int)) : int) + 2))",
		"mu(a1 : int, cut(int, mu(a2 : int, prim(+, mu(a3 : int, cut(int, mu(a4 : int, cut(int, mu(a5 : int, cut(int, 1, a4)), a4)), a1)), 2, a2)), a1))"},
	{"a label and a variable of one name", "int", "label(x : int, goto(x, x : int))", "mu(a1 : int, cut(int, mu(a2 : int, cut(int, x0, a1)), a1))"},
	{"names that are bound again", "int", "case list(l) { Nil() => x, Cons(x, l) => let(x : int = (x + 1), x) }",
		"mu(a1 : int, cut(list, x1, match list { Nil() => cut(int, x0, a1), Cons(x5, x6) => cut(int, mu(a2 : int, cut(int, mu(a3 : int, prim(+, x5, 1, a3)), comu(x7 : int, cut(int, x7, a2)))), a1) }))"},
	{"names that are no longer bound", "int", "(let(x : int = 5, x) + x)",
		"mu(a1 : int, prim(+, mu(a2 : int, cut(int, 5, comu(x9 : int, cut(int, x9, a2)))), x0, a1))"},
}

const others = "fun from(n : int) : stream = from(n);\n"

func TestP8_1Table(t *testing.T) {
	for _, c := range table {
		p := parse(t, declText+"fun main() : int = 1;\nfun f(x : int, l : list, s : stream, g : fn) : "+c.result+" = "+c.body+";\n"+others)
		wants(t, c.name, lowered(t, p), declText+"fun main() = cut(int, 1, comu(x0 : int, done(x0)));\n"+
			"fun f(x0 : int, x1 : list, x2 : stream, x3 : fn, a0 : "+c.result+") = cut("+c.result+", "+c.want+", a0);\n"+
			"fun from(x0 : int, a0 : stream) = cut(stream, mu(a1 : stream, call from(x0, a1)), a0);\n")
	}
}

func TestP8_1Main(t *testing.T) {
	for _, c := range []struct{ name, source, want string }{
		{"the example", "fun main(n : int) : int = (n + 1);",
			"fun main(x0 : int) = cut(int, mu(a0 : int, prim(+, x0, 1, a0)), comu(x1 : int, done(x1)));\n"},
		{"parameters", "fun main(b : int, a : int) : int = b; fun g() : int = 2;",
			"fun main(x5 : int, x3 : int) = cut(int, x5, comu(x5 : int, done(x5)));\nfun g(a7 : int) = cut(int, 2, a7);\n"},
		{"the most parameters", "fun main(a : int, b : int, c : int, d : int, e : int, f : int) : int = e;",
			"fun main(x0 : int, x1 : int, x2 : int, x3 : int, x4 : int, x5 : int) = cut(int, x4, comu(x6 : int, done(x6)));\n"},
		{"called by itself", "fun main(n : int) : int = main((n - 1));",
			"fun main(x0 : int) = cut(int, mu(a0 : int, call main0(mu(a1 : int, prim(-, x0, 1, a1)), a0)), comu(x1 : int, done(x1)));\n" +
				"fun main0(x0 : int, a9 : int) = cut(int, mu(a0 : int, call main0(mu(a1 : int, prim(-, x0, 1, a1)), a0)), a9);\n"},
		{"called by another", "fun main() : int = 1; fun g() : int = main();",
			"fun main() = cut(int, 1, comu(x1 : int, done(x1)));\nfun g(a0 : int) = cut(int, mu(a1 : int, call main0(a1)), a0);\nfun main0(a0 : int) = cut(int, 1, a0);\n"},
		{"called, with another name", "fun abcdefghij(n : int) : int = abcdefghij((n - 1));",
			"fun abcdefghij(x0 : int) = cut(int, mu(a0 : int, call main0(mu(a1 : int, prim(-, x0, 1, a1)), a0)), comu(x1 : int, done(x1)));\n" +
				"fun main0(x0 : int, a9 : int) = cut(int, mu(a0 : int, call main0(mu(a1 : int, prim(-, x0, 1, a1)), a0)), a9);\n"},
		{"called by another, with another name", "fun go() : int = main(); fun main() : int = go();",
			"fun go() = cut(int, mu(a0 : int, call main(a0)), comu(x0 : int, done(x0)));\nfun main(a0 : int) = cut(int, mu(a1 : int, call main0(a1)), a0);\nfun main0(a0 : int) = cut(int, mu(a1 : int, call main(a1)), a0);\n"},
		{"with labels", "fun main() : int = label(k : int, goto(k, main() : int));",
			"fun main() = cut(int, mu(a0 : int, cut(int, mu(a1 : int, cut(int, mu(a2 : int, call main0(a2)), a0)), a0)), comu(x0 : int, done(x0)));\n" +
				"fun main0(a5 : int) = cut(int, mu(a0 : int, cut(int, mu(a1 : int, cut(int, mu(a2 : int, call main0(a2)), a0)), a0)), a5);\n"},
	} {
		wants(t, c.name, lowered(t, parse(t, c.source)), c.want)
	}
}

// named returns a program in which each function calls itself, or none does, and each has such a name.
func named(call bool, l ...string) api.Prog {
	var p api.Prog
	for i, name := range l {
		f := api.Fun{Name: name, Body: api.Term{Op: api.TInt}}
		if call {
			f.Body = api.Term{Op: api.TCall, N: i}
		}
		p.Funs = append(p.Funs, f)
	}
	return p
}

func namesOf(c api.Core) []string {
	var out []string
	for _, f := range c.Funs {
		out = append(out, f.Name)
	}
	return out
}

func TestP8_1NamesOfMain(t *testing.T) {
	for _, c := range []struct {
		names []string
		extra string
	}{
		{[]string{"main"}, "main0"},
		{[]string{"main", "main0"}, "main1"},
		{[]string{"main", "main1"}, "main0"},
		{[]string{"main", "main00", "main01"}, "main0"},
		{[]string{"main", "main2", "main0", "main1"}, "main3"},
		{[]string{"main", "main0", "main1", "main2", "main3", "main4", "main5", "main6", "main7", "main8", "main9"}, "main10"},
		{[]string{"go"}, "main0"},
		{[]string{"go", "go0"}, "main0"},
		{[]string{"go", "main"}, "main0"},
		{[]string{"go", "main", "main0"}, "main1"},
		{[]string{"main0"}, "main1"},
		{[]string{"main1"}, "main0"},
		{[]string{"main0", "main", "main1"}, "main2"},
		{[]string{"main00"}, "main0"},
		{[]string{"mainmain"}, "main0"},
		{[]string{"abcdefghi"}, "main0"},
		{[]string{"abcdefghij"}, "main0"},
		{[]string{"abcdefghij", "main0"}, "main1"},
		{[]string{"main0", "main1", "main2", "main3", "main4", "main5", "main6", "main7", "main8", "main9", "main10"}, "main11"},
	} {
		got := lowered(t, named(true, c.names...))
		if !slices.Equal(namesOf(got), append(slices.Clone(c.names), c.extra)) {
			t.Errorf("%v: %v", c.names, namesOf(got))
		}
		last := len(c.names)
		if n := got.Funs[0].Body.Args[0].Args[0].N; n != last {
			t.Errorf("%v: main calls function %d", c.names, n)
		}
		if n := got.Funs[last].Body.Args[0].Args[0].N; n != last {
			t.Errorf("%v: %s calls function %d", c.names, c.extra, n)
		}
		if got := lowered(t, named(false, c.names...)); !slices.Equal(namesOf(got), c.names) {
			t.Errorf("%v: %v, though nothing is called", c.names, namesOf(got))
		}
	}
}

// The parameters are those of the translation.
func TestP8_2Type(t *testing.T) {
	p := parse(t, declText+headText+"fun all(a : list, b : stream, c : int, d : fn, e : pair) : stream = b;\nfun none() : pair = Single(from(1));\nfun big(a : int, b : int, c : int, d : int, e : int, f : stream) : int = 1;\n")
	for f, want := range [][]api.Arg{
		{{}, {}},
		{{Type: list}, {Co: true}},
		{{}, {Type: stream, Co: true}},
		{{Type: stream}, {Type: list}, {Type: fn}, {Type: pair, Co: true}},
		{{Type: pair}, {}, {Type: stream}, {Type: fn, Co: true}},
		{{Type: list}, {Type: stream}, {}, {Type: fn}, {Type: pair}, {Type: stream, Co: true}},
		{{Type: pair, Co: true}},
	} {
		if got, e := lower.Type(p, f); !slices.Equal(got, want) || e != api.OK {
			t.Errorf("%d: %v %d, not %v", f, got, e, want)
		}
	}
	if got, e := lower.Type(p, 7); got != nil || e != api.ErrLarge {
		t.Errorf("too many: %v %d", got, e)
	}
	p.Funs = p.Funs[:6]
	for i, f := range lowered(t, p).Funs {
		if got, e := lower.Type(p, i); !slices.Equal(got, f.Params) || e != api.OK {
			t.Errorf("%s: %v %d, not %v", f.Name, got, e, f.Params)
		}
	}
}
