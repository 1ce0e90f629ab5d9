package step_test

import (
	"math"
	"reflect"
	"slices"
	"testing"

	"chiasmus/api"
	"chiasmus/core"
	"chiasmus/step"
)

// one is a step: a command, the next one, and what is emitted.
type one struct {
	name, command, next string
	outs                []int
}

// passes has cuts of which one side is a mu or a comu.
var passes = [...]one{
	{name: "a mu of integers", command: "cut(int, mu(a0 : int, prim(+, 1, 2, a0)), comu(x0 : int, done(x0)))",
		next: "prim(+, 1, 2, comu(x0 : int, done(x0)))"},
	{name: "a mu of lists", command: "cut(list, mu(a7 : list, cut(list, Nil(), a7)), match list { Nil() => done(1), Cons(x0, x1) => done(x0) })",
		next: "cut(list, Nil(), match list { Nil() => done(1), Cons(x0, x1) => done(x0) })"},
	{name: "a mu that forgets", command: "cut(int, mu(a0 : int, done(1)), comu(x0 : int, done(x0)))",
		next: "done(1)"},
	{name: "a mu that passes twice", command: "cut(int, mu(a0 : int, ifz(1, cut(int, 2, a0), cut(int, 3, a0))), comu(x0 : int, done(x0)))",
		next: "ifz(1, cut(int, 2, comu(x0 : int, done(x0))), cut(int, 3, comu(x0 : int, done(x0))))"},
	{name: "a mu of streams that is observed", command: "cut(stream, mu(a0 : stream, call f(a0, Nil(), mu(a1 : stream, cut(stream, mu(a2 : stream, done(1)), a0)), comu(x0 : list, done(2)))), Tail(Head(comu(x0 : int, done(x0)))))",
		next: "call f(Tail(Head(comu(x0 : int, done(x0)))), Nil(), mu(a1 : stream, cut(stream, mu(a2 : stream, done(1)), Tail(Head(comu(x0 : int, done(x0)))))), comu(x0 : list, done(2)))"},
	{name: "both run, and lists are positive", command: "cut(list, mu(a0 : list, done(1)), comu(x0 : list, done(2)))",
		next: "done(1)"},
	{name: "both run, and streams are negative", command: "cut(stream, mu(a0 : stream, done(1)), comu(x0 : stream, done(2)))",
		next: "done(2)"},
	{name: "an integer", command: "cut(int, 5, comu(x3 : int, prim(*, x3, x3, comu(x4 : int, done(x3)))))",
		next: "prim(*, 5, 5, comu(x4 : int, done(5)))"},
	{name: "a list", command: "cut(list, Cons(1, Cons(2, Nil())), comu(x0 : list, cut(list, Cons(0, x0), comu(x1 : list, cut(list, x0, comu(x2 : list, done(3)))))))",
		next: "cut(list, Cons(0, Cons(1, Cons(2, Nil()))), comu(x1 : list, cut(list, Cons(1, Cons(2, Nil())), comu(x2 : list, done(3)))))"},
	{name: "an object", command: "cut(stream, match stream { Head(a0) => cut(int, 1, a0), Tail(a0) => done(2) }, comu(x0 : stream, cut(stream, x0, Head(comu(x1 : int, done(x1))))))",
		next: "cut(stream, match stream { Head(a0) => cut(int, 1, a0), Tail(a0) => done(2) }, Head(comu(x1 : int, done(x1))))"},
	{name: "a mu of streams that is named", command: "cut(stream, mu(a0 : stream, emit(1, done(2))), comu(x0 : stream, cut(stream, x0, Tail(Head(comu(x1 : int, cut(stream, x0, Head(comu(x2 : int, done(x2))))))))))",
		next: "cut(stream, mu(a0 : stream, emit(1, done(2))), Tail(Head(comu(x1 : int, cut(stream, mu(a0 : stream, emit(1, done(2))), Head(comu(x2 : int, done(x2))))))))"},
}

// scopes has variables with equal numbers.
var scopes = [...]one{
	{name: "a mu inside, with the same number", command: "cut(int, mu(a0 : int, cut(int, mu(a0 : int, cut(int, 1, a0)), a0)), comu(x0 : int, done(x0)))",
		next: "cut(int, mu(a0 : int, cut(int, 1, a0)), comu(x0 : int, done(x0)))"},
	{name: "a comu inside, with the same number", command: "cut(int, 1, comu(x0 : int, prim(+, x0, x0, comu(x0 : int, done(x0)))))",
		next: "prim(+, 1, 1, comu(x0 : int, done(x0)))"},
	{name: "the other sort", command: "cut(int, mu(a0 : int, cut(int, 1, comu(x0 : int, cut(int, x0, a0)))), comu(x0 : int, cut(int, mu(a0 : int, done(x0)), comu(x1 : int, done(x0)))))",
		next: "cut(int, 1, comu(x0 : int, cut(int, x0, comu(x0 : int, cut(int, mu(a0 : int, done(x0)), comu(x1 : int, done(x0)))))))"},
	{name: "a branch inside", command: "cut(int, 1, comu(x0 : int, cut(list, Cons(x0, Nil()), match list { Nil() => done(x0), Cons(x0, x1) => done(x0) })))",
		next: "cut(list, Cons(1, Nil()), match list { Nil() => done(1), Cons(x0, x1) => done(x0) })"},
	{name: "a value with the number of what it comes into", command: "cut(fn, match fn { Ap(x0, x1, a0) => cut(int, x0, a0), Both(a0, x0, a1) => done(1), Over(x0, a0, a1) => done(2) }, comu(x0 : fn, cut(int, 7, comu(x1 : int, cut(fn, x0, Ap(x1, Nil(), comu(x2 : int, done(x1))))))))",
		next: "cut(int, 7, comu(x1 : int, cut(fn, match fn { Ap(x5, x6, a0) => cut(int, x5, a0), Both(a0, x0, a1) => done(1), Over(x0, a0, a1) => done(2) }, Ap(x1, Nil(), comu(x2 : int, done(x1))))))"},
	{name: "the largest number", command: "cut(int, mu(a1048576 : int, cut(int, 1, a1048576)), comu(x1048576 : int, done(x1048576)))",
		next: "cut(int, 1, comu(x0 : int, done(x0)))"},
}

// meetings has cuts of an xtor and a match.
var meetings = [...]one{
	{name: "nil", command: "cut(list, Nil(), match list { Nil() => done(1), Cons(x0, x1) => done(x0) })",
		next: "done(1)"},
	{name: "cons", command: "cut(list, Cons(2, Cons(3, Nil())), match list { Nil() => done(1), Cons(x0, x1) => cut(list, x1, comu(x2 : list, done(x0))) })",
		next: "cut(list, Cons(3, Nil()), comu(x2 : list, done(2)))"},
	{name: "a constructor with consumers", command: "cut(mixed, Mix(comu(x0 : int, done(x0)), 4, Tail(Head(comu(x0 : int, done(5)))), Nil()), match mixed { Mix(a0, x0, a1, x1) => call f(a1, x1, mu(a2 : stream, cut(int, x0, a0)), comu(x2 : list, done(x0))), Held(a0, x0, x1) => done(1) })",
		next: "call f(Tail(Head(comu(x0 : int, done(5)))), Nil(), mu(a2 : stream, cut(int, 4, comu(x0 : int, done(x0)))), comu(x2 : list, done(4)))"},
	{name: "a constructor with what is not evaluated", command: "cut(mixed, Held(Ap(1, Nil(), comu(x0 : int, done(x0))), mu(a0 : stream, emit(2, done(3))), Mix(comu(x0 : int, done(9)), 4, Head(comu(x0 : int, done(5))), Nil())), match mixed { Mix(a0, x0, a1, x1) => done(1), Held(a0, x0, x1) => cut(stream, x0, Head(comu(x2 : int, cut(mixed, x1, comu(x3 : mixed, done(8)))))) })",
		next: "cut(stream, mu(a0 : stream, emit(2, done(3))), Head(comu(x2 : int, cut(mixed, Mix(comu(x0 : int, done(9)), 4, Head(comu(x0 : int, done(5))), Nil()), comu(x3 : mixed, done(8))))))"},
	{name: "head", command: "cut(stream, match stream { Head(a3) => cut(int, 1, a3), Tail(a0) => done(2) }, Head(comu(x0 : int, done(x0))))",
		next: "cut(int, 1, comu(x0 : int, done(x0)))"},
	{name: "tail", command: "cut(stream, match stream { Head(a3) => cut(int, 1, a3), Tail(a0) => cut(stream, mu(a1 : stream, done(4)), a0) }, Tail(Head(comu(x0 : int, done(x0)))))",
		next: "cut(stream, mu(a1 : stream, done(4)), Head(comu(x0 : int, done(x0))))"},
	{name: "a destructor with producers", command: "cut(fn, match fn { Ap(x0, x1, a0) => cut(list, x1, comu(x2 : list, cut(int, x0, a0))), Both(a0, x0, a1) => done(1), Over(x0, a0, a1) => done(2) }, Ap(3, Cons(4, Nil()), comu(x7 : int, done(x7))))",
		next: "cut(list, Cons(4, Nil()), comu(x2 : list, cut(int, 3, comu(x7 : int, done(x7)))))"},
	{name: "a destructor with more consumers", command: "cut(fn, match fn { Ap(x0, x1, a0) => done(1), Both(a0, x0, a1) => done(2), Over(x0, a0, a1) => cut(list, mu(a2 : list, cut(stream, x0, Tail(Head(comu(x1 : int, cut(fn, mu(a3 : fn, done(3)), a1)))))), a0) }, Over(mu(a0 : stream, done(4)), comu(x0 : list, done(5)), Ap(6, Nil(), comu(x0 : int, done(x0)))))",
		next: "cut(list, mu(a2 : list, cut(stream, mu(a0 : stream, done(4)), Tail(Head(comu(x1 : int, cut(fn, mu(a3 : fn, done(3)), Ap(6, Nil(), comu(x0 : int, done(x0))))))))), comu(x0 : list, done(5)))"},
}

// others has the commands that are no cuts.
var others = [...]one{
	{name: "a sum", command: "prim(+, 9223372036854775807, 1, comu(x0 : int, done(x0)))", next: "cut(int, -9223372036854775808, comu(x0 : int, done(x0)))"},
	{name: "a difference", command: "prim(-, 3, 5, comu(x0 : int, done(x0)))", next: "cut(int, -2, comu(x0 : int, done(x0)))"},
	{name: "a product", command: "prim(*, -3, 5, comu(x0 : int, done(x0)))", next: "cut(int, -15, comu(x0 : int, done(x0)))"},
	{name: "a quotient", command: "prim(/, -7, 2, comu(x0 : int, done(x0)))", next: "cut(int, -3, comu(x0 : int, done(x0)))"},
	{name: "a quotient by zero", command: "prim(/, -7, 0, comu(x0 : int, done(x0)))", next: "cut(int, 0, comu(x0 : int, done(x0)))"},
	{name: "the least quotient", command: "prim(/, -9223372036854775808, -1, comu(x0 : int, done(x0)))", next: "cut(int, -9223372036854775808, comu(x0 : int, done(x0)))"},
	{name: "a remainder", command: "prim(%, -7, 2, comu(x0 : int, done(x0)))", next: "cut(int, -1, comu(x0 : int, done(x0)))"},
	{name: "a remainder of zero", command: "prim(%, -7, 0, comu(x0 : int, done(x0)))", next: "cut(int, -7, comu(x0 : int, done(x0)))"},
	{name: "equal", command: "prim(==, 4, 4, comu(x0 : int, done(x0)))", next: "cut(int, 1, comu(x0 : int, done(x0)))"},
	{name: "not less", command: "prim(<, 4, 4, comu(x0 : int, done(x0)))", next: "cut(int, 0, comu(x0 : int, done(x0)))"},
	{name: "zero", command: "ifz(0, done(1), emit(2, done(3)))", next: "done(1)"},
	{name: "not zero", command: "ifz(1, done(1), emit(2, done(3)))", next: "emit(2, done(3))"},
	{name: "negative", command: "ifz(-1, done(1), emit(2, done(3)))", next: "emit(2, done(3))"},
	{name: "an emission", command: "emit(-5, emit(6, done(7)))", next: "emit(6, done(7))", outs: []int{-5}},
	{name: "a call", command: "call f(Head(comu(x0 : int, done(x0))), Cons(1, Nil()), mu(a0 : stream, done(2)), comu(x0 : list, done(3)))",
		next: "ifz(1, cut(stream, mu(a0 : stream, done(2)), Head(comu(x0 : int, done(x0)))), cut(list, Cons(1, Nil()), comu(x0 : list, done(3))))"},
	{name: "a call of main", command: "call main(1, 2)", next: "prim(-, 1, 2, comu(x0 : int, done(x0)))"},
	{name: "a call of what is focused first", command: "call g(3, comu(x0 : int, done(x0)))",
		next: "cut(int, mu(a1 : int, cut(int, 3, a1)), comu(x7 : int, prim(+, x7, 3, comu(x0 : int, done(x0)))))"},
	{name: "a call of itself", command: "call k()", next: "call k()"},
}

func all() []one {
	return slices.Concat(passes[:], scopes[:], meetings[:], others[:])
}

func TestP10_2Next(t *testing.T) {
	for _, o := range all() {
		c, k := program(t, o.command)
		_, want := program(t, o.next)
		next, r, over, e := step.Next(c, k)
		if over || e != api.OK || !sameRun(r, api.Run{Outs: o.outs, Steps: 1}) {
			t.Errorf("%s: %v %v %d", o.name, r, over, e)
		}
		if !core.Same(next, want) {
			t.Errorf("%s: %s", o.name, shown(c, next))
		}
		c.Funs[0].Body = next
		if e := core.Check(c); e != api.OK {
			t.Errorf("%s: the next command is not valid: %d", o.name, e)
		}
	}
}

func TestP10_2Over(t *testing.T) {
	for _, n := range []int{0, 5, -1, math.MaxInt, math.MinInt} {
		c, k := program(t, "done(1)")
		k.Args[0].N = n
		next, r, over, e := step.Next(c, k)
		if !reflect.DeepEqual(next, api.Node{}) || !sameRun(r, api.Run{End: api.Done, Val: n, Steps: 1}) || !over || e != api.OK {
			t.Errorf("%d: %v %v %v %d", n, next, r, over, e)
		}
	}
}

func TestP10_2Start(t *testing.T) {
	for _, c := range []struct {
		name, from, want string
		inputs           []int
	}{
		{"no inputs", "fun main() = done(1);\n", "done(1)", nil},
		{"inputs", "fun main(x3 : int, x0 : int) = prim(-, x3, x0, comu(x0 : int, done(x0)));\n", "prim(-, 7, -2, comu(x0 : int, done(x0)))", []int{7, -2}},
		{"inputs that are not used", "fun main(x3 : int, x0 : int) = emit(x0, emit(x0, done(1)));\n", "emit(-9223372036854775808, emit(-9223372036854775808, done(1)))", []int{7, math.MinInt}},
		{"hidden inputs", "fun main(x0 : int) = cut(list, Cons(x0, Nil()), match list { Nil() => done(x0), Cons(x0, x1) => done(x0) });\n", "cut(list, Cons(8, Nil()), match list { Nil() => done(8), Cons(x0, x1) => done(x0) })", []int{8}},
		{"what is focused first", "fun main(x0 : int) = done(mu(a0 : int, cut(int, x0, a0)));\n", "cut(int, mu(a0 : int, cut(int, 4, a0)), comu(x0 : int, done(x0)))", []int{4}},
		{"large numbers", "fun main(x1048576 : int) = cut(int, mu(a1048576 : int, cut(int, x1048576, a1048576)), comu(x1048576 : int, done(x1048576)));\n", "cut(int, mu(a0 : int, cut(int, 4, a0)), comu(x0 : int, done(x0)))", []int{4}},
	} {
		from := parse(t, c.from)
		got := start(t, from, c.inputs)
		if want := parse(t, "fun main() = "+c.want+";\n").Funs[0].Body; !core.Same(got, want) {
			t.Errorf("%s: %v, not %v", c.name, got, want)
		}
		from.Funs[0].Body = got
		if e := core.Check(from); e != api.OK {
			t.Errorf("%s: the command is not valid: %d", c.name, e)
		}
	}
}

// A command that runs is not that of the program: its functions count, its bodies do not.
func TestP10_2AnyCommand(t *testing.T) {
	c, _ := program(t, "done(1)")
	_, k := program(t, "call k()")
	next, r, over, e := step.Next(c, k)
	if !core.Same(next, done(num(1))) || !sameRun(r, api.Run{Steps: 1}) || over || e != api.OK {
		t.Errorf("%v %v %v %d", next, r, over, e)
	}
	for _, k := range []api.Node{done(num(1)), start(t, c, []int{1, 2})} {
		if _, _, _, e := step.Next(c, k); e != api.OK {
			t.Errorf("%v: %d", k, e)
		}
	}
}
