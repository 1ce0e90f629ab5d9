package direct_test

import (
	"testing"
)

// all checks the runs of programs with these bodies of main.
func all(t *testing.T, l []wanted) {
	t.Helper()
	for _, c := range l {
		runs(t, c.name, program(t, c.body), nil, c.value, c.steps)
	}
}

func TestP5_1Variables(t *testing.T) {
	all(t, []wanted{
		{"a value, without evaluating it again", "let(x : int = emit(1, 5), (x + x))", "emit 1, done 10", 7},
		{"a thunk, evaluated each time", "let(x : stream = emit(1, from(4)), (x.Head() + x.Head()))", "emit 1, emit 1, done 8", 18},
		{"a thunk of a thunk", "let(x : stream = emit(1, from(4)), let(y : stream = x, (y.Head() + y.Head())))", "emit 1, emit 1, done 8", 21},
		{"a thunk in its own variables", "let(n : int = 1, let(x : stream = from(n), let(n : int = 2, x.Head())))", "done 1", 11},
		{"a thunk in its own labels", "label(k : int, let(x : stream = goto(k, 1 : stream), (10 + label(k : int, x.Head()))))", "done 1", 9},
		{"a thunk with another continuation each time", "let(x : stream = label(k : stream, goto(k, from(4) : stream)), ((x.Head() * 10) + x.Tail().Head()))", "done 45", 26},
		{"the inner one of two", "let(x : int = 1, let(x : int = (x + 1), (x * 10)))", "done 20", 9},
		{"the outer one again", "let(x : int = 1, (let(x : int = 2, x) + (x * 10)))", "done 12", 9},
	})
}

func TestP5_1Integers(t *testing.T) {
	all(t, []wanted{
		{"an integer", "5", "done 5", 1},
		{"the least one", "-9223372036854775808", "done -9223372036854775808", 1},
		{"first a, then b", "(emit(1, 7) - emit(2, 3))", "emit 1, emit 2, done 4", 7},
		{"wrapping around", "(9223372036854775807 + 1)", "done -9223372036854775808", 3},
		{"the other way", "(-9223372036854775808 - 1)", "done 9223372036854775807", 3},
		{"a product", "(-4 * 3)", "done -12", 3},
		{"a quotient, rounded towards zero", "(-7 / 2)", "done -3", 3},
		{"divided by zero", "(7 / 0)", "done 0", 3},
		{"the least quotient", "(-9223372036854775808 / -1)", "done -9223372036854775808", 3},
		{"a remainder", "(-7 % 2)", "done -1", 3},
		{"the remainder of zero", "(7 % 0)", "done 7", 3},
		{"equal", "((3 == 3) + (10 * (3 == 4)))", "done 1", 9},
		{"less", "((3 < 4) + (10 * ((4 < 4) + (4 < 3))))", "done 1", 13},
		{"less, with signs", "(-9223372036854775808 < 9223372036854775807)", "done 1", 3},
		{"zero", "ifz(emit(1, 0), emit(2, 5), emit(3, 6))", "emit 1, emit 2, done 5", 7},
		{"not zero", "ifz(emit(1, 1), emit(2, 5), emit(3, 6))", "emit 1, emit 3, done 6", 7},
		{"negative", "ifz(-1, 5, 6)", "done 6", 3},
		{"ifz of other types", "ifz(0, from(1), from(2)).Head()", "done 1", 7},
		{"emissions in order", "emit(emit(1, 2), emit(3, emit(-4, 5)))", "emit 1, emit 2, emit 3, emit -4, done 5", 9},
	})
}

func TestP5_1Constructors(t *testing.T) {
	all(t, []wanted{
		{"arguments from left to right", "sum(Cons(emit(1, 2), emit(3, Cons(emit(4, 5), emit(6, Nil())))))", "emit 1, emit 3, emit 4, emit 6, done 7", 29},
		{"thunks as arguments", "case pair(Pair(emit(1, from(10)), emit(2, 20), emit(3, from(30)))) { Pair(a, b, c) => ((c.Head() - b) + (a.Head() - c.Tail().Head())) }", "emit 2, emit 3, emit 1, emit 3, done -11", 39},
		{"thunks that nobody needs", "case pair(Pair(emit(1, from(10)), emit(2, 20), emit(3, from(30)))) { Pair(a, b, c) => b }", "emit 2, done 20", 6},
		{"arguments in their own variables", "let(n : int = 1, let(p : pair = Pair(from(n), n, from((n + 1))), let(n : int = 5, case pair(p) { Pair(a, b, c) => ((a.Head() + b) + (c.Head() * n)) })))", "done 12", 28},
		{"arguments in their own labels", "label(k : int, case pair(Pair(goto(k, 7 : stream), 1, from(2))) { Pair(a, b, c) => (100 + label(k : int, a.Head())) })", "done 7", 11},
		{"the clause of the constructor", "(case list(Nil()) { Nil() => 1, Cons(a, b) => 2 } + (10 * case list(Cons(3, Nil())) { Nil() => 4, Cons(a, b) => a }))", "done 31", 11},
		{"first what is analyzed", "case list(emit(1, Cons(2, Nil()))) { Nil() => emit(3, 4), Cons(a, b) => emit(a, 5) }", "emit 1, emit 2, done 5", 9},
		{"a clause in its own scope", "let(n : int = 3, case list(let(n : int = 4, Cons(n, Nil()))) { Nil() => 0, Cons(a, b) => ((a * 10) + n) })", "done 43", 13},
		{"names that shadow others", "let(a : int = 1, (case list(Cons(2, Nil())) { Nil() => a, Cons(a, b) => (a * 10) } + a))", "done 21", 11},
		{"names in order", "case list(Cons(2, Cons(3, Nil()))) { Nil() => 0, Cons(b, a) => case list(a) { Nil() => 0, Cons(a, c) => ((a * 10) + b) } }", "done 32", 13},
		{"a constructor is evaluated once", "let(l : list = emit(1, Cons(2, Nil())), (sum(l) + sum(l)))", "emit 1, done 4", 29},
	})
}

func TestP5_1Objects(t *testing.T) {
	all(t, []wanted{
		{"first the arguments, then the object", "emit(4, cocase act { Do(a, b, c) => emit(5, ((a - b.Head()) * c)), Work(e, f, g, h) => 1 }).Do(emit(1, 7), emit(2, from(3)), emit(3, 10))", "emit 1, emit 3, emit 4, emit 5, emit 2, done 40", 24},
		{"the clause of the destructor", "(cocase stream { Head() => emit(1, 5), Tail() => emit(2, from(6)) }.Head() + cocase stream { Head() => emit(3, 7), Tail() => emit(4, from(8)) }.Tail().Head())", "emit 1, emit 4, done 13", 15},
		{"an object is not evaluated further", "let(s : int = cocase stream { Head() => emit(1, 2), Tail() => emit(3, from(1)) }, 4)", "done 4", 3},
		{"a clause in the variables of its object", "let(n : int = 1, case box(Box(cocase fn { Ap(a) => ((a * 10) + n) })) { Box(f) => let(n : int = 2, f.Ap(n)) })", "done 21", 15},
		{"a clause in the labels of its object", "label(k : int, case box(Box(cocase fn { Ap(a) => goto(k, a : int) })) { Box(f) => (100 + label(k : int, (10 + f.Ap(2)))) })", "done 2", 14},
		{"arguments in their own variables", "let(n : int = 1, let(o : act = let(n : int = 20, cocase act { Do(a, b, c) => ((a * n) + b.Head()), Work(e, f, g, h) => 1 }), o.Do((n + 1), from((n + 2)), n)))", "done 43", 24},
		{"arguments in their own labels", "label(k : int, (100 + label(j : int, cocase act { Do(a, b, c) => label(k : int, (10 + b.Head())), Work(e, f, g, h) => 1 }.Do(1, goto(k, 5 : stream), 2))))", "done 5", 15},
		{"with the continuation of the observation", "((cocase fn { Ap(a) => (a + 1) }.Ap(2) * 10) + 4)", "done 34", 10},
		{"names that shadow others", "let(a : int = 1, (cocase fn { Ap(a) => (a * 10) }.Ap(2) + a))", "done 21", 10},
		{"observations of observations", "from(4).Tail().Tail().Tail().Head()", "done 7", 23},
	})
}

func TestP5_1Lets(t *testing.T) {
	all(t, []wanted{
		{"a positive type", "let(x : list = emit(1, Nil()), emit(2, 3))", "emit 1, emit 2, done 3", 7},
		{"a negative type", "let(x : stream = emit(1, from(2)), emit(2, 3))", "emit 2, done 3", 4},
		{"a negative type, when it is needed", "let(x : stream = emit(1, from(2)), emit(2, x.Head()))", "emit 2, emit 1, done 2", 11},
		{"the variable is not in scope of its term", "let(x : int = 5, let(x : int = (x * 2), x))", "done 10", 7},
		{"the result of u", "(let(x : int = 5, 3) + let(x : stream = from(1), 4))", "done 7", 6},
	})
}

func TestP5_1Labels(t *testing.T) {
	all(t, []wanted{
		{"without a jump", "(1 + label(k : int, (2 + 3)))", "done 6", 6},
		{"the example", "label(k : int, (1 + goto(k, 5 : int)))", "done 5", 5},
		{"what is inside is left, what is outside is not", "(1 + label(k : int, (20 + goto(k, (300 + 4) : int))))", "done 305", 9},
		{"no further than the argument", "label(k : int, (emit(1, 2) + (goto(k, emit(3, 4) : int) + emit(5, 6))))", "emit 1, emit 3, done 4", 10},
		{"the inner one of two", "label(k : int, (1 + label(k : int, (20 + goto(k, 300 : int)))))", "done 301", 8},
		{"the outer one of two", "label(k : int, (1 + label(j : int, (20 + goto(k, 300 : int)))))", "done 300", 8},
		{"a jump from an argument of a jump", "label(k : int, (1 + label(j : int, (20 + goto(j, goto(k, 300 : int) : int)))))", "done 300", 9},
		{"the argument of a jump has its own labels", "label(k : int, (1 + goto(k, label(k : int, (20 + goto(k, 300 : int))) : int)))", "done 300", 9},
		{"labels and variables", "let(k : int = 5, label(k : int, (1 + goto(k, (k + 1) : int))))", "done 6", 9},
		{"variables and labels", "label(k : int, let(k : int = 5, (1 + goto(k, (k + 1) : int))))", "done 6", 9},
		{"a list", "sum(label(k : list, Cons(1, Cons(goto(k, Cons(5, Nil()) : int), Nil()))))", "done 5", 18},
		{"of a negative type", "label(k : stream, emit(1, goto(k, from(3) : stream))).Head()", "emit 1, done 3", 9},
		{"with the emissions before", "emit(1, label(k : int, emit(2, emit(goto(k, 4 : int), 5))))", "emit 1, emit 2, done 4", 8},
	})
}

func TestP5_1Calls(t *testing.T) {
	for _, c := range []struct {
		name, funs string
		inputs     []int
		value      string
		steps      int
	}{
		{"the first example", "fun main(n : int) : int = sum(Cons(n, Cons(2, Nil())));", []int{5}, "done 7", 21},
		{"the third example, with more fuel", "fun main(n : int) : int = ifz(n, 7, main((n - 1)));", []int{2}, "done 7", 15},
		{"inputs in order", "fun main(a : int, b : int) : int = ((a * 10) + b);", []int{1, 2}, "done 12", 5},
		{"extreme inputs", "fun main(a : int, b : int) : int = emit(b, a);", []int{-1 << 63, 1<<63 - 1}, "emit 9223372036854775807, done -9223372036854775808", 3},
		{"arguments from left to right", "fun main() : int = f(emit(1, 10), emit(2, from(20)), emit(3, 30)); fun f(a : int, b : stream, c : int) : int = ((c - a) + b.Head());", nil, "emit 1, emit 3, emit 2, done 40", 19},
		{"a thunk that nobody needs", "fun main() : int = f(emit(1, 10), emit(2, from(20)), emit(3, 30)); fun f(a : int, b : stream, c : int) : int = (c - a);", nil, "emit 1, emit 3, done 20", 10},
		{"parameters in order", "fun main() : int = f(1, 2, 3); fun f(c : int, a : int, b : int) : int = ((c * 100) + ((a * 10) + b));", nil, "done 123", 13},
		{"names of the caller", "fun main(a : int, b : int) : int = (f(b, a) + a); fun f(a : int, b : int) : int = ((a * 100) + (b * 10));", []int{1, 2}, "done 211", 12},
		{"arguments in the scope of the call", "fun main(a : int) : int = let(b : int = 2, f(from(b), (a + b))); fun f(b : stream, a : int) : int = ((b.Head() * 10) + a);", []int{5}, "done 27", 16},
		{"a function of a negative type", "fun main() : int = (f(emit(1, 2)).Head() + f(3).Head()); fun f(n : int) : stream = emit(4, from(n));", nil, "emit 1, emit 4, emit 4, done 5", 21},
		{"without parameters", "fun main() : int = (f() + f()); fun f() : int = emit(1, 2);", nil, "emit 1, emit 1, done 4", 9},
		{"a jump out of an argument", "fun main() : int = label(k : int, f(emit(1, 2), goto(k, 3 : int), emit(4, 5))); fun f(a : int, b : int, c : int) : int = a;", nil, "emit 1, done 3", 7},
	} {
		runs(t, c.name, parse(t, c.funs), c.inputs, c.value, c.steps)
	}
}

// A continuation that received a value can receive another one.
func TestP5_1LabelsUsedAgain(t *testing.T) {
	const again = "label(j : box, Box(cocase fn { Ap(x) => goto(j, Box(cocase fn { Ap(y) => (x + y) }) : int) }))"
	all(t, []wanted{
		{"an analysis", "case box(" + again + ") { Box(f) => f.Ap(10) }", "done 20", 16},
		{"a let", "let(b : box = " + again + ", case box(b) { Box(f) => f.Ap(10) })", "done 20", 20},
		{"an observation", "label(j : fn, cocase fn { Ap(x) => goto(j, cocase fn { Ap(y) => (x + y) } : int) }).Ap(emit(1, 10))", "emit 1, done 20", 11},
	})
}

// What was bound before a continuation was used again is as it was. The first jar, 100, makes the second one, 200, take its place, which jumps back to where the first one was used.
func TestP5_1NothingBoundIsChanged(t *testing.T) {
	const jar = "label(j : jar, Jar(100, cocase use { Use(p) => goto(j, Jar(200, cocase use { Use(q) => case box(p) { Box(r) => r.Ap(5) } }) : int) }))"
	const sum = "case jar(v) { Jar(i, w) => ((i + a) + (b + c)), Four(e, f, g, h) => 0 }"
	use := func(last string) string {
		return "case jar(v) { Jar(n, u) => (label(m : int, u.Use(Box(cocase fn { Ap(z) => goto(m, z : int) }))) + " + last + "), Four(e, f, g, h) => 0 }"
	}
	parts := func(body string) string {
		return "case jar(t) { Jar(x, y) => 0, Four(a, b, c, v) => " + body + " }"
	}
	const main = "fun main(a : int, b : int, c : int) : int = "
	for _, c := range []struct {
		name, funs, value string
		steps             int
	}{
		{"by a let", main + "let(v : jar = " + jar + ", let(b : int = emit(b, b), " + use(sum) + "));", "emit 2, emit 2, done 111", 48},
		{"by a call", main + "f(a, b, c, " + jar + "); fun f(a : int, b : int, c : int, v : jar) : int = " + use(sum) + ";", "done 111", 43},
		{"by a call with more", main + "f(a, " + jar + ", emit(b, b), c); fun f(a : int, v : jar, b : int, c : int) : int = " + use(sum) + ";", "emit 2, emit 2, done 111", 49},
		{"by a constructor", main + "let(t : jar = Four(a, b, c, " + jar + "), " + parts(use(parts(sum))) + ");", "done 111", 50},
		{"by a destructor", main + "cocase act { Do(x, y, z) => 0, Work(a, b, c, v) => " + use(sum) + " }.Work(a, b, c, " + jar + ");", "done 111", 45},
	} {
		runs(t, c.name, parse(t, c.funs), []int{1, 2, 3}, c.value, c.steps)
	}
}

// Nothing but the kind of a value that is received can make a run stuck, and that as soon as it is received.
func TestP5_1Stuck(t *testing.T) {
	all(t, []wanted{
		{"the first operand", "(emit(1, Nil()) + emit(2, 3))", "emit 1, stuck", 4},
		{"the second operand", "(emit(1, 3) + emit(2, Nil()))", "emit 1, emit 2, stuck", 7},
		{"an object as an operand", "(from(1) * 2)", "stuck", 4},
		{"an object as the second operand", "(2 == from(1))", "stuck", 5},
		{"an ifz", "ifz(emit(1, Nil()), emit(2, 3), emit(4, 5))", "emit 1, stuck", 4},
		{"an object in an ifz", "ifz(from(1), 3, 5)", "stuck", 4},
		{"an emit", "emit(emit(1, Nil()), emit(2, 3))", "emit 1, stuck", 4},
		{"an object in an emit", "emit(from(1), 3)", "stuck", 4},
		{"the result", "emit(1, Cons(2, Nil()))", "emit 1, stuck", 5},
		{"an object as the result", "emit(1, from(2))", "emit 1, stuck", 5},
		{"the result by a label", "label(k : int, goto(k, emit(1, Nil()) : int))", "emit 1, stuck", 5},
		{"an integer that is analyzed", "case list(emit(1, 0)) { Nil() => emit(2, 3), Cons(a, b) => emit(4, 5) }", "emit 1, stuck", 4},
		{"an object that is analyzed", "case list(emit(1, from(1))) { Nil() => emit(2, 3), Cons(a, b) => emit(4, 5) }", "emit 1, stuck", 6},
		{"a constructor of another type", "case list(emit(1, Box(cocase fn { Ap(a) => a }))) { Nil() => emit(2, 3), Cons(a, b) => emit(4, 5) }", "emit 1, stuck", 4},
		{"an integer that is observed", "emit(2, 5).Ap(emit(1, 3))", "emit 1, emit 2, stuck", 7},
		{"a constructor that is observed", "emit(2, Nil()).Ap(emit(1, 3))", "emit 1, emit 2, stuck", 7},
		{"an object of another type", "emit(2, from(1)).Ap(emit(1, 3))", "emit 1, emit 2, stuck", 9},
		{"a part of a list", "sum(Cons(1, Cons(Nil(), 2)))", "stuck", 16},
	})
}

func TestP5_1NotStuck(t *testing.T) {
	all(t, []wanted{
		{"an object, bound as an integer", "let(x : int = emit(1, from(2)), (x.Head() + x.Tail().Head()))", "emit 1, done 5", 19},
		{"an integer, bound as a stream", "let(x : stream = emit(1, 5), (x + x))", "emit 1, emit 1, done 10", 10},
		{"a list, bound as an integer", "let(x : int = Cons(2, Nil()), sum(x))", "done 2", 15},
		{"arguments of a constructor", "case list(Cons(emit(1, from(2)), 3)) { Nil() => 0, Cons(a, b) => (a.Head() + (a.Head() + b)) }", "emit 1, done 7", 17},
		{"thunks as arguments of a constructor", "case pair(Pair(emit(1, 2), 3, emit(4, Nil()))) { Pair(a, b, c) => (a + (a + sum(c))) }", "emit 1, emit 1, emit 4, done 4", 21},
		{"an argument of a function", "f(emit(1, 2)); fun f(s : stream) : list = (s * s)", "emit 1, emit 1, done 4", 10},
		{"arguments of an observation", "cocase act { Do(a, b, c) => (a.Head() + (b + b)), Work(e, f, g, h) => 1 }.Do(emit(1, from(2)), emit(3, 4), Nil())", "emit 1, emit 3, emit 3, done 10", 21},
		{"the result of an observation", "cocase stream { Head() => 1, Tail() => 5 }.Tail()", "done 5", 3},
		{"the type of a label", "label(k : stream, (1 + goto(k, 5 : list)))", "done 5", 5},
		{"a list that is passed on", "sum(label(k : int, (1 + goto(k, Nil() : list))))", "done 0", 9},
		{"what is not evaluated", "ifz(0, 1, (Nil() + Nil()))", "done 1", 3},
		{"a thunk that nobody needs", "let(s : stream = (1 + Nil()), 2)", "done 2", 2},
	})
}
