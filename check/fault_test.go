package check_test

import (
	"slices"
	"testing"

	"chiasmus/api"
	"chiasmus/check"
)

func TestP4_3Paths(t *testing.T) {
	for body, want := range map[string][]int{
		"Cons(1, 2)":                                {},
		"1":                                         {}, // the body has a type, but the wrong one
		"ifz(x, s, s)":                              {},
		"emit(Cons(1, 2), l)":                       {0},
		"emit(1, Cons(1, 2))":                       {1},
		"emit(l, Cons(1, 2))":                       {1}, // postorder: the child comes before its parent
		"emit(Cons(l, l), Cons(1, 2))":              {0},
		"emit(1, emit(l, l))":                       {1},
		"Cons(ifz(x, 1, l), Cons(1, 2))":            {0},
		"Cons((1 + (l + s)), Cons(1, 2))":           {0, 1},
		"Cons((1 + l), l)":                          {0},
		"Cons(1, Cons(2, Cons(3, 4)))":              {1, 1},
		"ifz(s.Tail(), l, Cons(l, l))":              {2},
		"ifz(s.Tail(), l, l)":                       {},
		"ifz(l.Head(), Cons(1, 2), l)":              {0},
		"let(y : int = l, y)":                       {},
		"let(y : int = l, Cons(y, y))":              {1},
		"let(y : int = (l + 1), Cons(y, y))":        {0},
		"let(y : list = l, Cons(x, y))":             nil,
		"let(x : list = l, Cons(x, x))":             {1},
		"label(k : list, Cons(1, 2))":               {0},
		"label(k : list, s)":                        {},
		"label(k : list, goto(k, s : list))":        {0},
		"label(k : list, goto(k, l : list))":        nil,
		"label(k : int, goto(k, Cons(1, 2) : int))": {0, 0},
		"case list(Cons(1, 2)) { Nil() => l, Cons(a, b) => (a + b) }":                                      {0},
		"case list(s) { Nil() => l, Cons(a, b) => Cons(b, b) }":                                            {2},
		"case list(s) { Nil() => Cons(1, 2), Cons(a, b) => (a + b) }":                                      {1},
		"case list(s) { Nil() => l, Cons(a, b) => b }":                                                     {},
		"case list(l) { Nil() => l, Cons(a, b) => a }":                                                     {},
		"case list(l) { Nil() => l, Cons(a, b) => case list(b) { Nil() => b, Cons(c, d) => Cons(d, c) } }": {2, 2},
		"g.Ap(l, l)": {},
		"case pair(two((1 + l), cocase stream { Head() => (1 + l), Tail() => s })) { Pair(a, b) => l }": {0, 0},
		"case pair(two((1 + x), cocase stream { Head() => (1 + l), Tail() => l })) { Pair(a, b) => l }": {0, 1, 0},
		"case pair(two((1 + x), cocase stream { Head() => (1 + x), Tail() => l })) { Pair(a, b) => l }": {0, 1},
		"Cons(cocase fn { Ap(a, b) => a }.Ap((l + 1), 2).Head(), l)":                                    {0, 0, 0},
		"Cons(cocase fn { Ap(a, b) => a }.Ap(1, 2).Head(), l)":                                          {0, 0, 2},
		"Cons(cocase fn { Ap(a, b) => s }.Ap(1, 2).Head(), l)":                                          {0, 0},
		"Cons(cocase fn { Ap(a, b) => s }.Ap(1, l).Head(), l)":                                          nil,
	} {
		p := program(t, "list", body)
		f, path, found, e := check.Fault(p)
		if want == nil && (f != 0 || len(path) != 0 || found || e != api.OK) {
			t.Errorf("%s: %d %v %v %d", body, f, path, found, e)
		}
		if want != nil && (f != 1 || !slices.Equal(path, want) || !found || e != api.OK) {
			t.Errorf("%s: %d %v %v %d, not %v", body, f, path, found, e, want)
		}
	}
}

func TestP4_3Functions(t *testing.T) {
	for _, c := range []struct {
		s     string
		fun   int
		path  []int
		found bool
	}{
		{"fun main() : int = 1;", 0, nil, false},
		{"fun main() : int = Nil();", 0, nil, true},
		{"fun main(n : int) : int = sum(Cons(n, 2)); fun sum(l : list) : int = 0;", 0, []int{0}, true},
		{"fun main() : int = 1; fun f() : list = 1; fun g() : list = (Nil() + 1);", 1, nil, true},
		{"fun main() : int = 1; fun f() : list = Nil(); fun g() : list = (1 + (Nil() + 1));", 2, []int{1}, true},
		{"fun main() : int = g(); fun f() : list = Nil(); fun g() : list = (1 + (Nil() + 1));", 0, nil, true},
		{"fun main() : int = 1; fun f() : list = Nil(); fun g() : list = f(); fun h() : int = 1;", 0, nil, false},
		{"fun main() : int = 1; fun f(x : list) : list = x; fun g(x : int) : list = x; fun x() : list = 1;", 2, nil, true},
	} {
		f, path, found, e := check.Fault(parse(t, c.s))
		if f != c.fun || !slices.Equal(path, c.path) || found != c.found || e != api.OK {
			t.Errorf("%s: %d %v %v %d", c.s, f, path, found, e)
		}
	}
}

func TestR4PathsAreNewMemory(t *testing.T) {
	p := program(t, "list", "Cons((1 + (l + s)), l)")
	_, first, _, _ := check.Fault(p)
	first[0], first[1] = 7, 7
	if _, second, _, _ := check.Fault(p); !slices.Equal(second, []int{0, 1}) {
		t.Errorf("%v", second)
	}
}
