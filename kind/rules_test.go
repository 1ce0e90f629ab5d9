package kind_test

import (
	"testing"

	"chiasmus/api"
	"chiasmus/kind"
)

// rules returns, for nodes in the scope of all variables, the type of each (0 for commands), or none.
func rules() map[string]int {
	out := map[string]int{}
	for _, l := range []map[string]int{producers(), consumers(), cuts(), commands(), hidden()} {
		for s, typ := range l {
			out[s] = typ
		}
	}
	return out
}

func producers() map[string]int {
	return map[string]int{
		"x0": 0, "x1": list, "x2": stream, "x3": mixed, "x4": fn,
		"0": 0, "7": 0, "-7": 0,
		"Nil()": list, "Cons(x0, x1)": list, "Cons(1, Cons(2, Nil()))": list,
		"Cons(x1, x1)": none, "Cons(x0, x0)": none, "Cons(x1, x0)": none, "Cons(x2, x1)": none, "Cons(x0, x3)": none,
		"Cons(1, Cons(Nil(), Nil()))": none, "Cons(1, Cons(2, 3))": none,
		"Mix(a0, x0, a1)": mixed, "Mix(a0, 1, match list { Nil() => done(1), Cons(x8, x9) => done(x8) })": mixed,
		"Mix(a1, x0, a1)": none, "Mix(a0, x1, a1)": none, "Mix(a0, x0, a0)": none, "Mix(a1, x0, a0)": none,
		"Mix(a0, 1, match list { Nil() => done(1), Cons(x8, x9) => done(x9) })": none,
		"Held(a2)": mixed, "Held(Head(a0))": mixed, "Held(Tail(Tail(a2)))": mixed,
		"Held(a1)": none, "Held(a3)": none, "Held(Head(a1))": none, "Held(Tail(Tail(a0)))": none, "Held(Both(a0, a1))": none,
		"mu(a9 : int, cut(int, 1, a9))":        0,
		"mu(a9 : list, done(1))":               list,
		"mu(a9 : fn, cut(fn, x4, a9))":         fn,
		"mu(a9 : stream, cut(stream, x2, a9))": stream,
		"mu(a9 : fn, cut(stream, x2, a9))":     none,
		"mu(a9 : fn, cut(fn, x2, a9))":         none,
		"mu(a9 : int, cut(list, x1, a9))":      none,
		"mu(a9 : list, done(Nil()))":           none,
		"mu(a9 : list, cut(int, 1, a1))":       none,
		"match stream { Head(a9) => cut(int, 1, a9), Tail(a9) => cut(stream, x2, a9) }":                                                                       stream,
		"match stream { Head(a9) => done(1), Tail(a9) => done(2) }":                                                                                           stream,
		"match stream { Head(a9) => cut(int, x1, a9), Tail(a9) => cut(stream, x2, a9) }":                                                                      none,
		"match stream { Head(a9) => cut(int, 1, a9), Tail(a9) => cut(int, 1, a9) }":                                                                           none,
		"match stream { Head(a9) => cut(stream, x2, a9), Tail(a9) => cut(stream, x2, a9) }":                                                                   none,
		"match fn { Ap(x8, x9, a9) => prim(+, x8, 1, a9), Both(a8, a9) => cut(list, x1, a9) }":                                                                fn,
		"match fn { Ap(x9, x8, a9) => cut(list, x8, match list { Nil() => prim(+, x9, 1, a9), Cons(x8, x7) => done(x8) }), Both(a8, a9) => cut(int, 1, a8) }": fn,
		"match fn { Ap(x8, x9, a9) => prim(+, x9, 1, a9), Both(a8, a9) => cut(list, x1, a9) }":                                                                none,
		"match fn { Ap(x8, x9, a9) => cut(list, x9, a9), Both(a8, a9) => cut(list, x1, a9) }":                                                                 none,
		"match fn { Ap(x8, x9, a9) => prim(+, x8, 1, a9), Both(a8, a9) => cut(list, x1, a8) }":                                                                none,
		"match fn { Ap(x8, x9, a9) => prim(+, x8, 1, a9), Both(a8, a9) => cut(int, 1, a9) }":                                                                  none,
	}
}

func consumers() map[string]int {
	return map[string]int{
		"a0": 0, "a1": list, "a2": stream, "a3": mixed, "a4": fn,
		"Head(a0)": stream, "Head(comu(x9 : int, done(x9)))": stream, "Tail(Head(a0))": stream, "Tail(a2)": stream,
		"Head(a1)": none, "Head(a2)": none, "Head(comu(x9 : list, done(1)))": none, "Tail(a0)": none, "Tail(a4)": none, "Tail(Head(a2))": none,
		"Ap(x0, x1, a0)": fn, "Ap(1, Cons(2, Nil()), a0)": fn, "Both(a0, a1)": fn,
		"Ap(x1, x1, a0)": none, "Ap(x0, x0, a0)": none, "Ap(x0, x1, a1)": none, "Ap(x1, x0, a0)": none, "Ap(1, Cons(Nil(), Nil()), a0)": none,
		"Both(a1, a0)": none, "Both(a0, a0)": none, "Both(a1, a1)": none,
		"comu(x9 : int, done(x9))":                                                                                    0,
		"comu(x9 : list, done(1))":                                                                                    list,
		"comu(x9 : mixed, cut(mixed, x9, a3))":                                                                        mixed,
		"comu(x9 : fn, cut(fn, x9, a4))":                                                                              fn,
		"comu(x9 : list, done(x9))":                                                                                   none,
		"comu(x9 : int, cut(list, x9, a1))":                                                                           none,
		"comu(x9 : fn, cut(fn, x9, a2))":                                                                              none,
		"comu(x9 : fn, done(x1))":                                                                                     none,
		"match list { Nil() => done(0), Cons(x8, x9) => done(x8) }":                                                   list,
		"match list { Nil() => done(0), Cons(x8, x9) => cut(list, x9, a1) }":                                          list,
		"match list { Nil() => done(0), Cons(x8, x9) => done(x9) }":                                                   none,
		"match list { Nil() => done(0), Cons(x8, x9) => cut(list, x8, a1) }":                                          none,
		"match list { Nil() => done(x1), Cons(x8, x9) => done(x8) }":                                                  none,
		"match list { Nil() => done(Nil()), Cons(x8, x9) => done(Nil()) }":                                            none,
		"match mixed { Mix(a8, x9, a9) => prim(*, x9, x9, a8), Held(a9) => cut(stream, x2, a9) }":                     mixed,
		"match mixed { Mix(a8, x9, a9) => cut(list, x1, a9), Held(a9) => cut(stream, x2, Head(a0)) }":                 mixed,
		"match mixed { Mix(a8, x9, a9) => prim(*, x9, x9, a9), Held(a9) => cut(stream, x2, a9) }":                     none,
		"match mixed { Mix(a8, x9, a9) => cut(list, x9, a9), Held(a9) => cut(stream, x2, a9) }":                       none,
		"match mixed { Mix(a8, x9, a9) => prim(*, x9, x9, a8), Held(a9) => cut(list, x1, a9) }":                       none,
		"match mixed { Mix(a8, x9, a9) => prim(*, x9, x9, a8), Held(a9) => cut(mixed, mu(a8 : mixed, done(1)), a9) }": none,
	}
}

func cuts() map[string]int {
	out := map[string]int{
		"cut(int, 3, comu(x0 : int, done(x0)))":                                                  0,
		"cut(int, Nil(), comu(x0 : int, done(x0)))":                                              none,
		"cut(int, 3, comu(x0 : list, done(1)))":                                                  none,
		"cut(list, Cons(1, Nil()), match list { Nil() => done(0), Cons(x0, x1) => done(x0) })":   0,
		"cut(list, Cons(1, Nil()), match list { Nil() => done(0), Cons(x0, x1) => done(x1) })":   none,
		"cut(list, Cons(1, 2), match list { Nil() => done(0), Cons(x0, x1) => done(x0) })":       none,
		"cut(stream, match stream { Head(a9) => done(0), Tail(a9) => done(0) }, Tail(Head(a0)))": 0,
		"cut(stream, match stream { Head(a9) => done(0), Tail(a9) => done(0) }, Both(a0, a1))":   none,
		"cut(mixed, Held(a2), match list { Nil() => done(0), Cons(x0, x1) => done(x0) })":        none,
	}
	for i, p := range []string{"x0", "x1", "x2", "x3", "x4"} {
		for j, c := range []string{"a0", "a1", "a2", "a3", "a4"} {
			for k, typ := range typeNames() {
				out["cut("+typ+", "+p+", "+c+")"] = none
				if i == k && j == k {
					out["cut("+typ+", "+p+", "+c+")"] = 0
				}
			}
		}
	}
	return out
}

func commands() map[string]int {
	out := map[string]int{
		"ifz(x0, done(1), done(2))": 0, "ifz(3, cut(list, x1, a1), done(2))": 0,
		"ifz(x1, done(1), done(2))": none, "ifz(x4, done(1), done(2))": none,
		"ifz(x0, done(x1), done(2))": none, "ifz(x0, done(1), done(x1))": none, "ifz(x0, done(1), cut(list, x1, a0))": none,
		"emit(x0, done(1))": 0, "emit(-3, emit(x0, done(x0)))": 0,
		"emit(x1, done(1))": none, "emit(x2, done(1))": none, "emit(1, done(x1))": none, "emit(1, emit(x1, done(1)))": none,
		"done(x0)": 0, "done(mu(a9 : int, done(1)))": 0,
		"done(x1)": none, "done(x2)": none, "done(Nil())": none, "done(mu(a9 : list, done(1)))": none, "done(mu(a9 : int, done(x1)))": none,
		"call main(x0)": 0, "call main(3)": 0, "call f(x1, a2, x0, a0)": 0, "call f(Nil(), Head(a0), 1, comu(x1 : int, done(x1)))": 0,
		"call main(x1)": none, "call main(x4)": none,
		"call f(x0, a2, x0, a0)": none, "call f(x2, a2, x0, a0)": none, "call f(x1, a1, x0, a0)": none, "call f(x1, a4, x0, a0)": none,
		"call f(x1, a2, x1, a0)": none, "call f(x1, a2, x0, a1)": none, "call f(Cons(Nil(), Nil()), a2, 1, a0)": none,
	}
	for _, sign := range []string{"+", "-", "*", "/", "%", "==", "<"} {
		out["prim("+sign+", x0, 1, a0)"] = 0
		out["prim("+sign+", x1, 1, a0)"] = none
		out["prim("+sign+", x0, x1, a0)"] = none
		out["prim("+sign+", x0, 1, a1)"] = none
		out["prim("+sign+", x1, x1, a1)"] = none
	}
	return out
}

// hidden has nodes in which variables hide others, only as long as they are in scope.
func hidden() map[string]int {
	return map[string]int{
		"mu(a0 : list, cut(list, x1, a0))":                                                                             list,
		"mu(a0 : list, cut(int, x0, a0))":                                                                              none,
		"comu(x1 : int, done(x1))":                                                                                     0,
		"comu(x1 : int, cut(list, x1, a1))":                                                                            none,
		"comu(x0 : list, cut(stream, x2, comu(x0 : stream, cut(stream, x0, a2))))":                                     list,
		"comu(x0 : list, cut(stream, x2, comu(x0 : stream, cut(list, x0, a1))))":                                       none,
		"mu(a1 : int, cut(list, x1, a1))":                                                                              none,
		"mu(a1 : int, cut(int, x0, a1))":                                                                               0,
		"comu(x1 : int, cut(int, x1, a0))":                                                                             0,
		"mu(a0 : list, prim(+, x0, x0, comu(x9 : int, cut(list, x1, a0))))":                                            list,
		"comu(x0 : list, cut(list, x0, a1))":                                                                           list,
		"comu(x0 : list, cut(int, 1, a0))":                                                                             list,
		"cut(int, mu(a1 : int, cut(int, 1, a1)), comu(x9 : int, cut(list, x1, a1)))":                                   0,
		"cut(int, mu(a1 : int, cut(int, 1, a1)), comu(x9 : int, cut(int, x9, a1)))":                                    none,
		"ifz(x0, cut(list, x1, comu(x0 : list, cut(list, x0, a1))), done(x0))":                                         0,
		"ifz(x0, cut(list, x1, comu(x0 : list, done(1))), cut(list, x0, a1))":                                          none,
		"ifz(x0, cut(list, x1, comu(x0 : list, done(x0))), done(x0))":                                                  none,
		"cut(list, x1, match list { Nil() => done(x0), Cons(x5, x0) => cut(list, x0, a1) })":                           0,
		"cut(list, x1, match list { Nil() => cut(list, x0, a1), Cons(x5, x0) => cut(list, x0, a1) })":                  none,
		"cut(list, x1, match list { Nil() => done(x0), Cons(x5, x0) => done(x0) })":                                    none,
		"cut(list, x1, match list { Nil() => done(x0), Cons(x1, x0) => cut(list, x0, a1) })":                           0,
		"cut(mixed, x3, match mixed { Mix(a1, x1, a0) => cut(list, Nil(), a0), Held(a9) => cut(list, x1, a1) })":       0,
		"cut(mixed, x3, match mixed { Mix(a1, x1, a0) => prim(+, x1, x1, a1), Held(a1) => cut(stream, x2, a1) })":      0,
		"cut(mixed, x3, match mixed { Mix(a1, x1, a0) => prim(+, x1, x1, a1), Held(a9) => prim(+, x1, x1, a1) })":      none,
		"ifz(x0, cut(mixed, x3, match mixed { Mix(a1, x1, a0) => done(x1), Held(a0) => done(1) }), prim(+, 1, 2, a0))": 0,
		"ifz(x0, cut(mixed, x3, match mixed { Mix(a1, x1, a0) => done(x1), Held(a0) => done(1) }), done(x1))":          none,
		"comu(x0 : list, ifz(1, cut(stream, x2, comu(x0 : stream, done(1))), cut(list, x0, a1)))":                      list,
		"comu(x0 : list, ifz(1, cut(stream, x2, comu(x0 : stream, done(1))), done(x0)))":                               none,
		"call f(Nil(), comu(x0 : stream, cut(stream, x0, a2)), x0, comu(x1 : int, done(x1)))":                          0,
		"call f(Nil(), comu(x0 : stream, cut(stream, x0, a2)), x1, comu(x1 : int, done(x1)))":                          none,
	}
}

func TestP7_1Rules(t *testing.T) {
	for s, want := range rules() {
		for typ, name := range typeNames() {
			k, expected := s, api.ErrKind
			if !isCommand(s) {
				k, _ = cutOf(s, name)
			}
			if typ == want || isCommand(s) && want == 0 {
				expected = api.OK
			}
			if e := kind.Check(program(t, k)); e != expected {
				t.Errorf("%s: %d, not %d", k, e, expected)
			}
		}
	}
}

func TestP7_2Rules(t *testing.T) {
	c := program(t, "done(1)")
	seen := map[int]bool{}
	for s, want := range rules() {
		n := read(t, s)
		seen[n.Op] = true
		typ, e := kind.Type(c, numbers(), numbers(), types(), n)
		if want == none && (typ != 0 || e != api.ErrKind) {
			t.Errorf("%s: %d %d, but it is not well-typed", s, typ, e)
		}
		if want != none && (typ != want || e != api.OK) {
			t.Errorf("%s: %d %d, not %d", s, typ, e, want)
		}
	}
	if len(seen) != api.KDone+1 {
		t.Errorf("operators %v", seen)
	}
}

func TestP7_1Programs(t *testing.T) {
	for s, want := range map[string]api.Errno{
		"fun main() = cut(int, 3, comu(x0 : int, done(x0)));\n":                                      api.OK,
		"fun main() = cut(int, Nil(), comu(x0 : int, done(x0)));\n":                                  api.ErrKind,
		"fun main(x0 : int) = done(x0);\n":                                                           api.OK,
		"fun main(x5 : int, x3 : int) = prim(+, x5, x3, comu(x5 : int, done(x5)));\n":                api.OK,
		"fun main(x5 : int) = cut(list, x5, comu(x0 : list, done(1)));\n":                            api.ErrKind,
		"fun main() = done(1);\nfun f(x0 : list) = done(1);\n":                                       api.OK,
		"fun main() = done(1);\nfun f(x0 : list) = done(x0);\n":                                      api.ErrKind,
		"fun main() = done(1);\nfun f(x0 : list) = done(1);\nfun g(x0 : list) = done(x0);\n":         api.ErrKind,
		"fun main() = done(1);\nfun f(x0 : list) = done(x0);\nfun g(x0 : list) = done(1);\n":         api.ErrKind,
		"fun main() = done(Nil());\nfun f(x0 : list) = done(1);\n":                                   api.ErrKind,
		"fun main(x0 : int) = done(x0);\nfun f(x0 : list, a0 : list) = cut(list, x0, a0);\n":         api.OK,
		"fun main() = done(1);\nfun f(x0 : list, a0 : int) = cut(list, x0, a0);\n":                   api.ErrKind,
		"fun main() = done(1);\nfun f(a0 : fn, x0 : fn) = cut(fn, x0, a0);\n":                        api.OK,
		"fun main() = call f(1);\nfun f(x0 : int) = call main();\n":                                  api.OK,
		"fun main() = call f(1);\nfun f(x0 : list) = call main();\n":                                 api.ErrKind,
		"fun main() = call f(1, Nil());\nfun f(x0 : int, x1 : list) = call f(x0, x1);\n":             api.OK,
		"fun main() = call f(1, Nil());\nfun f(x0 : int, x1 : list) = call f(x1, x0);\n":             api.ErrKind,
		"fun main() = call f(comu(x0 : int, done(x0)));\nfun f(a0 : int) = cut(int, 3, a0);\n":       api.OK,
		"fun main() = call f(comu(x0 : int, done(x0)));\nfun f(a0 : list) = cut(list, Nil(), a0);\n": api.ErrKind,
	} {
		if e := kind.Check(parse(t, s)); e != want {
			t.Errorf("%s: %d, not %d", s, e, want)
		}
	}
	if e := kind.Check(api.Core{Funs: []api.CoreFun{{Name: "main", Body: done(num(1))}}}); e != api.OK {
		t.Errorf("without declarations: %d", e)
	}
}
