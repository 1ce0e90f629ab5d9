package check_test

import (
	"math"
	"reflect"
	"slices"
	"strconv"
	"strings"
	"testing"

	"chiasmus/api"
	"chiasmus/check"
)

// rules returns, for terms in the scope of the parameters of f, the type of each, or none.
func rules() map[string]int {
	out := map[string]int{}
	for _, l := range []map[string]int{simple(), data(), codata(), binders(), jumps()} {
		for body, typ := range l {
			out[body] = typ
		}
	}
	return out
}

func simple() map[string]int {
	out := map[string]int{
		"x": 0, "l": list, "s": stream, "g": fn,
		"5": 0, "-5": 0,
		"ifz(x, 1, 2)": 0, "ifz(x, l, Nil())": list, "ifz(x, s, s)": stream,
		"ifz(l, 1, 2)": none, "ifz(s, 1, 2)": none, "ifz(x, 1, l)": none, "ifz(x, l, 1)": none, "ifz(x, s, g)": none, "ifz(x, s, l)": none,
		"emit(x, 1)": 0, "emit(x, l)": list, "emit(x, g)": fn,
		"emit(l, 1)": none, "emit(s, 1)": none, "emit(l, l)": none,
		"main(x)": 0, "main(main(1))": 0, "two(x, s)": pair,
		"main(l)": none, "two(s, x)": none, "two(x, l)": none, "two(l, s)": none, "two(x, g)": none, "main(two(x, s))": none,
		"f(x, l, g, s)": none, "f(x, l, s, s)": none, "f(l, l, s, g)": none, "f(x, l, s, l)": none,
	}
	for _, sign := range strings.Fields("+ - * / % == <") {
		out["(x "+sign+" 1)"] = 0
		out["(l "+sign+" 1)"] = none
		out["(1 "+sign+" s)"] = none
		out["(l "+sign+" l)"] = none
	}
	return out
}

func data() map[string]int {
	return map[string]int{
		"Nil()": list, "Cons(x, l)": list, "Cons(x, Cons(2, Nil()))": list, "Pair(s, g)": pair,
		"Cons(l, l)": none, "Cons(x, x)": none, "Cons(l, x)": none, "Cons(x, Cons(2, 3))": none, "Cons(s, l)": none,
		"Pair(g, s)": none, "Pair(s, s)": none, "Pair(l, g)": none, "Pair(two(x, s), g)": none,
		"case list(l) { Nil() => 1, Cons(a, b) => a }":         0,
		"case list(l) { Nil() => l, Cons(a, b) => b }":         list,
		"case list(Nil()) { Nil() => s, Cons(s, x) => g }":     none,
		"case list(l) { Nil() => s, Cons(a, b) => b }":         none,
		"case list(l) { Nil() => 1, Cons(a, b) => b }":         none,
		"case list(l) { Nil() => l, Cons(a, b) => a }":         none,
		"case list(l) { Nil() => x, Cons(b, a) => a }":         none,
		"case list(l) { Nil() => x, Cons(b, a) => b }":         0,
		"case list(l) { Nil() => l, Cons(l, x) => x }":         list,
		"case list(l) { Nil() => l, Cons(l, x) => l }":         none,
		"case list(x) { Nil() => 1, Cons(a, b) => a }":         none,
		"case list(s) { Nil() => 1, Cons(a, b) => a }":         none,
		"case pair(l) { Pair(a, b) => 1 }":                     none,
		"case pair(two(1, s)) { Pair(a, b) => a }":             stream,
		"case pair(two(1, s)) { Pair(a, b) => b }":             fn,
		"case pair(two(1, s)) { Pair(a, b) => a.Head() }":      0,
		"case pair(two(1, s)) { Pair(a, b) => b.Head() }":      none,
		"case list(two(1, s)) { Nil() => 1, Cons(a, b) => 1 }": none,
	}
}

func codata() map[string]int {
	return map[string]int{
		"s.Head()": 0, "s.Tail()": stream, "s.Tail().Tail().Head()": 0, "g.Ap(1, l)": stream, "g.Ap(x, Nil()).Head()": 0,
		"x.Head()": none, "l.Head()": none, "g.Head()": none, "g.Tail()": none, "s.Head().Head()": none,
		"g.Ap(l, x)": none, "g.Ap(1, 2)": none, "g.Ap(s, l)": none, "g.Ap(1, s)": none, "s.Ap(1, l)": none, "g.Ap(1, g)": none,
		"cocase stream { Head() => 1, Tail() => s }":              stream,
		"cocase stream { Head() => x, Tail() => s.Tail() }":       stream,
		"cocase stream { Head() => l, Tail() => s }":              none,
		"cocase stream { Head() => s, Tail() => s }":              none,
		"cocase stream { Head() => 1, Tail() => 1 }":              none,
		"cocase stream { Head() => 1, Tail() => g }":              none,
		"cocase stream { Head() => s, Tail() => 1 }":              none,
		"cocase fn { Ap(a, b) => s }":                             fn,
		"cocase fn { Ap(a, b) => g.Ap(a, b) }":                    fn,
		"cocase fn { Ap(a, b) => g.Ap(b, a) }":                    none,
		"cocase fn { Ap(a, b) => a }":                             none,
		"cocase fn { Ap(a, b) => b }":                             none,
		"cocase fn { Ap(a, b) => g }":                             none,
		"cocase fn { Ap(l, x) => g.Ap(l, x) }":                    fn,
		"cocase fn { Ap(l, x) => g.Ap(x, l) }":                    none,
		"cocase fn { Ap(s, g) => s }":                             none,
		"(cocase stream { Head() => 1, Tail() => s }.Head() + 1)": 0,
	}
}

func binders() map[string]int {
	return map[string]int{
		"let(y : int = 1, y)":                                            0,
		"let(y : list = l, y)":                                           list,
		"let(y : list = l, 1)":                                           0,
		"let(y : int = l, y)":                                            none,
		"let(y : int = l, 1)":                                            none,
		"let(y : list = 1, y)":                                           none,
		"let(y : stream = g, 1)":                                         none,
		"let(y : stream = g.Ap(1, l), y.Head())":                         0,
		"let(x : list = Cons(x, l), x)":                                  list,
		"let(x : list = x, x)":                                           none,
		"let(x : list = l, (x + 1))":                                     none,
		"let(x : list = l, let(x : int = 1, x))":                         0,
		"(let(x : list = l, 1) + x)":                                     0,
		"(x + let(x : list = l, 1))":                                     0,
		"ifz(let(x : list = l, 1), x, 1)":                                0,
		"cocase stream { Head() => let(s : int = 1, s), Tail() => s }":   stream,
		"case list(l) { Nil() => x, Cons(a, b) => let(l : int = a, l) }": 0,
		"case list(case list(l) { Nil() => l, Cons(l, b) => b }) { Nil() => l, Cons(a, b) => l }": list,
	}
}

func jumps() map[string]int {
	return map[string]int{
		"label(k : int, 1)":                                  0,
		"label(k : list, l)":                                 list,
		"label(k : int, l)":                                  none,
		"label(k : list, 1)":                                 none,
		"label(k : stream, g)":                               none,
		"label(k : int, goto(k, 1 : int))":                   0,
		"label(k : int, goto(k, 1 : list))":                  none,
		"label(k : int, (1 + goto(k, 5 : int)))":             0,
		"label(k : int, (1 + goto(k, l : int)))":             none,
		"label(k : int, (1 + goto(k, 5 : list)))":            none,
		"label(k : list, Cons(goto(k, l : int), Nil()))":     list,
		"label(k : list, Cons(goto(k, 1 : int), Nil()))":     none,
		"label(k : list, goto(k, l : list))":                 list,
		"label(k : int, label(k : list, goto(k, l : list)))": none,
		"label(k : int, case list(label(k : list, goto(k, l : list))) { Nil() => goto(k, 1 : int), Cons(a, b) => a })": 0,
		"label(k : int, case list(label(k : list, l)) { Nil() => goto(k, l : int), Cons(a, b) => a })":                 none,
		"label(k : int, label(j : list, goto(k, 1 : list)))":                                                           none,
		"label(k : list, label(j : list, goto(k, l : list)))":                                                          list,
		"label(k : int, label(j : list, Cons(goto(k, 1 : int), goto(j, l : list))).Head())":                            none,
		"label(x : list, ifz(x, goto(x, l : list), l))":                                                                list,
		"let(k : list = l, label(k : int, goto(k, 1 : int)))":                                                          0,
		"label(k : int, let(k : list = l, goto(k, 1 : int)))":                                                          0,
		"label(k : int, let(k : list = l, goto(k, k : int)))":                                                          none,
		"label(k : int, cocase stream { Head() => goto(k, 1 : int), Tail() => goto(k, 2 : stream) }.Head())":           0,
	}
}

func TestP4_1Rules(t *testing.T) {
	for body, want := range rules() {
		for typ, name := range typeNames() {
			p := program(t, name, body)
			expected := api.ErrType
			if p.Funs[1].Result == want && typ == want {
				expected = api.OK
			}
			if e := check.Check(p); e != expected {
				t.Errorf("%s : %s: %d, not %d", body, name, e, expected)
			}
		}
	}
}

func TestP4_2Rules(t *testing.T) {
	for body, want := range rules() {
		p := program(t, "list", body)
		typ, e := check.Type(p, params(), nil, p.Funs[1].Body)
		if want == none && (typ != 0 || e != api.ErrType) {
			t.Errorf("%s: %d %d, but it has no type", body, typ, e)
		}
		if want != none && (typ != want || e != api.OK) {
			t.Errorf("%s: %d %d, not %d", body, typ, e, want)
		}
	}
}

// A call of f has whatever result type f is declared to have.
func TestP4_1CallOfItself(t *testing.T) {
	for _, name := range typeNames() {
		if e := check.Check(program(t, name, "f(x, l, s, g)")); e != api.OK {
			t.Errorf("%s: %d", name, e)
		}
	}
}

func TestP4_1Programs(t *testing.T) {
	const sum = "fun sum(l : list) : int = case list(l) { Nil() => 0, Cons(x, r) => (x + sum(r)) };"
	for s, want := range map[string]api.Errno{
		"fun main(n : int) : int = sum(Cons(n, Cons(2, Nil())));" + sum:                            api.OK,
		"fun main(n : int) : int = sum(Cons(n, 2));" + sum:                                         api.ErrType,
		"fun main(n : int) : int = sum(n);" + sum:                                                  api.ErrType,
		"fun main() : int = 1;":                                                                    api.OK,
		"fun main() : int = Nil();":                                                                api.ErrType,
		"fun main() : int = 1; fun f() : list = Nil();":                                            api.OK,
		"fun main() : int = 1; fun f() : list = 1;":                                                api.ErrType,
		"fun main() : int = 1; fun f() : int = Nil();":                                             api.ErrType,
		"fun main() : int = 1; fun f() : list = f();":                                              api.OK,
		"fun main() : int = f(); fun f() : list = f();":                                            api.ErrType,
		"fun main() : int = 1; fun f(x : list) : list = x; fun g(x : int) : list = f(x);":          api.ErrType,
		"fun main() : int = 1; fun f(x : list) : list = x; fun g(x : int) : int = x;":              api.OK,
		"fun main() : int = 1; fun f(x : list, y : int) : list = x;":                               api.OK,
		"fun main() : int = 1; fun f(x : list, y : int) : list = y;":                               api.ErrType,
		"fun main() : int = 1; fun f() : stream = cocase stream { Head() => 1, Tail() => f() };":   api.OK,
		"fun main() : int = 1; fun f() : stream = cocase stream { Head() => f(), Tail() => f() };": api.ErrType,
	} {
		if e := check.Check(parse(t, s)); e != want {
			t.Errorf("%s: %d, not %d", s, e, want)
		}
	}
}

func TestP4_2Given(t *testing.T) {
	p := program(t, "int", "1")
	x := api.Term{Op: api.TVar, Name: "x"}
	jump := api.Term{Op: api.TGoto, Name: "x", Type: fn, Args: []api.Term{x}}
	one, two, three := api.Param{Name: "x", Type: list}, api.Param{Name: "x", Type: stream}, api.Param{Name: "y", Type: fn}
	for _, c := range []struct {
		name         string
		vars, labels []api.Param
		t            api.Term
		typ          int
		e            api.Errno
	}{
		{"variable", []api.Param{one}, nil, x, list, api.OK},
		{"last variable", []api.Param{one, two}, nil, x, stream, api.OK},
		{"last variable but one", []api.Param{two, one, three}, nil, x, list, api.OK},
		{"other variable last", []api.Param{one, two, one, two, three}, nil, x, stream, api.OK},
		{"label", []api.Param{one}, []api.Param{one}, jump, fn, api.OK},
		{"other label", []api.Param{one}, []api.Param{two}, jump, 0, api.ErrType},
		{"last label", []api.Param{two}, []api.Param{one, two}, jump, fn, api.OK},
		{"last label of another type", []api.Param{one}, []api.Param{one, two}, jump, 0, api.ErrType},
		{"labels are no variables", nil, []api.Param{one}, x, 0, api.ErrArg},
		{"variables are no labels", []api.Param{one}, nil, jump, 0, api.ErrArg},
		{"nothing in scope", nil, nil, x, 0, api.ErrArg},
		{"other names", []api.Param{three, {Name: ""}, {Name: "X"}}, nil, x, 0, api.ErrArg},
		{"any string", []api.Param{{Name: "X y\xff", Type: stream}}, nil, api.Term{Op: api.TVar, Name: "X y\xff"}, stream, api.OK},
		{"reserved", []api.Param{{Name: "let", Type: fn}, {Name: "", Type: 1}}, nil, api.Term{Op: api.TVar, Name: "let"}, fn, api.OK},
		{"empty", []api.Param{{Name: "", Type: pair}}, nil, api.Term{Op: api.TVar}, pair, api.OK},
	} {
		if typ, e := check.Type(p, c.vars, c.labels, c.t); typ != c.typ || e != c.e {
			t.Errorf("%s: %d %d, not %d %d", c.name, typ, e, c.typ, c.e)
		}
	}
}

func TestP4_2NoTypesOfTheProgram(t *testing.T) {
	p := program(t, "int", "1")
	x, wrong := api.Term{Op: api.TVar, Name: "x"}, api.Term{Op: api.TIfz, Args: []api.Term{num(1), num(1), {Op: api.TCon, Type: list}}}
	good := []api.Param{{Name: "x", Type: list}}
	for _, typ := range []int{-1, pair + 1, math.MinInt, math.MaxInt, none - 1} {
		bad := api.Param{Name: "x", Type: typ}
		unused := api.Param{Name: "unused", Type: typ}
		for _, l := range [][]api.Param{{bad}, {bad, good[0]}, {good[0], bad}, {good[0], unused}, {unused, good[0]}} {
			if typ, e := check.Type(p, l, nil, x); typ != 0 || e != api.ErrArg {
				t.Errorf("variables %v: %d %d", l, typ, e)
			}
			if typ, e := check.Type(p, good, l, x); typ != 0 || e != api.ErrArg {
				t.Errorf("labels %v: %d %d", l, typ, e)
			}
			if typ, e := check.Type(p, l, nil, wrong); typ != 0 || e != api.ErrArg {
				t.Errorf("ErrArg comes first %v: %d %d", l, typ, e)
			}
		}
	}
	if typ, e := check.Type(p, []api.Param{{Name: "x", Type: pair}}, []api.Param{{Name: "k", Type: pair}}, x); typ != pair || e != api.OK {
		t.Errorf("the last type: %d %d", typ, e)
	}
	if typ, e := check.Type(p, nil, nil, wrong); typ != 0 || e != api.ErrType {
		t.Errorf("no type: %d %d", typ, e)
	}
}

func num(n int) api.Term {
	return api.Term{Op: api.TInt, N: n}
}

// chain returns a term of this depth, with an ill-typed leaf if a list is in its end.
func chain(depth int, end api.Term) api.Term {
	t := end
	for range depth - 1 {
		t = api.Term{Op: api.TEmit, Args: []api.Term{num(1), t}}
	}
	return t
}

func TestP4_2Invalid(t *testing.T) {
	p := program(t, "int", "1")
	wide := num(1)
	for range 9 {
		wide = api.Term{Op: api.TPrim, Args: []api.Term{wide, wide}}
	}
	for name, c := range map[string]struct {
		t api.Term
		e api.Errno
	}{
		"deepest":           {chain(api.MaxDepth, num(1)), api.OK},
		"too deep":          {chain(api.MaxDepth+1, num(1)), api.ErrArg},
		"far too deep":      {chain(1<<16, num(1)), api.ErrArg},
		"deepest, wrong":    {chain(api.MaxDepth, api.Term{Op: api.TEmit, Args: []api.Term{num(1), num(1)}}), api.ErrArg},
		"511 nodes":         {wide.Args[0], api.OK},
		"1023 nodes":        {wide, api.ErrArg},
		"no operator":       {api.Term{Op: api.TGoto + 1}, api.ErrArg},
		"negative operator": {api.Term{Op: -1}, api.ErrArg},
		"least operator":    {api.Term{Op: math.MinInt}, api.ErrArg},
		"no arguments":      {api.Term{Op: api.TPrim}, api.ErrArg},
		"an argument short": {api.Term{Op: api.TIfz, Args: []api.Term{num(1), num(1)}}, api.ErrArg},
		"no such type":      {api.Term{Op: api.TCon, Type: pair + 1}, api.ErrArg},
		"codata":            {api.Term{Op: api.TCon, Type: stream}, api.ErrArg},
		"no such xtor":      {api.Term{Op: api.TCon, Type: list, N: 2}, api.ErrArg},
		"no such function":  {api.Term{Op: api.TCall, N: 3}, api.ErrArg},
		"no clauses":        {api.Term{Op: api.TCocase, Type: stream}, api.ErrArg},
		"no names":          {api.Term{Op: api.TCocase, Type: fn, Clauses: []api.Clause{{Body: num(1)}}}, api.ErrArg},
		"no name":           {api.Term{Op: api.TLet, Args: []api.Term{num(1), num(1)}}, api.ErrArg},
		"invalid and wrong": {api.Term{Op: api.TEmit, Args: []api.Term{{Op: api.TCon, Type: list}, {Op: 99}}}, api.ErrArg},
		"wrong":             {api.Term{Op: api.TEmit, Args: []api.Term{{Op: api.TCon, Type: list}, num(1)}}, api.ErrType},
	} {
		if typ, e := check.Type(p, nil, nil, c.t); typ != 0 || e != c.e {
			t.Errorf("%s: %d %d, not %d", name, typ, e, c.e)
		}
	}
}

// There may be any number of names in scope.
func TestP4_2ManyNames(t *testing.T) {
	p := program(t, "int", "1")
	var l []api.Param
	for i := range 1 << 17 {
		l = append(l, api.Param{Name: "v" + strconv.Itoa(i), Type: i % (pair + 1)})
	}
	first, last := api.Term{Op: api.TVar, Name: "v0"}, api.Term{Op: api.TVar, Name: "v" + strconv.Itoa(len(l)-1)}
	for range 8 {
		first = api.Term{Op: api.TPrim, Args: []api.Term{first, first}}
	}
	x := api.Term{Op: api.TEmit, Args: []api.Term{first, last}}
	if typ, e := check.Type(p, l, l, x); typ != l[len(l)-1].Type || e != api.OK {
		t.Errorf("%d %d", typ, e)
	}
}

// The program of Type need not be well-typed itself.
func TestP4_2InProgramsWithoutTypes(t *testing.T) {
	p := program(t, "int", "Cons(1, 2)")
	call := api.Term{Op: api.TCall, N: 1, Args: []api.Term{num(1), {Op: api.TCon, Type: list}, {Op: api.TVar, Name: "s"}, {Op: api.TVar, Name: "g"}}}
	if typ, e := check.Type(p, params(), nil, call); typ != 0 || e != api.OK {
		t.Errorf("%d %d", typ, e)
	}
}

func TestR2ErrProgComesFirst(t *testing.T) {
	good := program(t, "int", "1")
	tooMany := append(slices.Clone(good.Funs), make([]api.Fun, api.MaxFuns)...)
	for name, p := range map[string]api.Prog{
		"nothing":          {},
		"no functions":     {Decls: good.Decls},
		"no declarations":  {Funs: good.Funs},
		"doubled":          {Decls: append(slices.Clone(good.Decls), good.Decls[0]), Funs: good.Funs},
		"two consumers":    {Decls: []api.Decl{{Name: "a", Codata: true, Xtors: []api.Xtor{{Name: "A", Args: []api.Arg{{Co: true}, {Co: true}}}}}}, Funs: good.Funs[:1]},
		"many functions":   {Decls: good.Decls, Funs: tooMany},
		"open body":        {Funs: []api.Fun{{Name: "main", Body: api.Term{Op: api.TVar, Name: "x"}}}},
		"label in a body":  {Funs: []api.Fun{{Name: "main", Body: api.Term{Op: api.TGoto, Name: "k", Args: []api.Term{num(1)}}}}},
		"main of list":     {Decls: good.Decls, Funs: []api.Fun{{Name: "main", Result: list, Body: num(1)}}},
		"no such operator": {Funs: []api.Fun{{Name: "main", Body: api.Term{Op: 99}}}},
		"too deep":         {Funs: []api.Fun{{Name: "main", Body: chain(api.MaxDepth+1, num(1))}}},
		"invalid, wrong":   {Decls: good.Decls, Funs: []api.Fun{{Name: "main", Body: api.Term{Op: api.TCon, Type: list}}, {Name: "Main", Body: num(1)}}},
	} {
		if e := check.Check(p); e != api.ErrProg {
			t.Errorf("%s: Check: %d", name, e)
		}
		for _, x := range []api.Term{num(1), {Op: 99}, {Op: api.TVar, Name: "x"}} {
			if typ, e := check.Type(p, []api.Param{{Name: "x", Type: -1}}, nil, x); typ != 0 || e != api.ErrProg {
				t.Errorf("%s: Type: %d %d", name, typ, e)
			}
		}
		if f, path, found, e := check.Fault(p); f != 0 || len(path) != 0 || found || e != api.ErrProg {
			t.Errorf("%s: Fault: %d %v %v %d", name, f, path, found, e)
		}
	}
}

func TestR4ArgumentsAreNotModified(t *testing.T) {
	for body := range rules() {
		p, kept := program(t, "list", body), program(t, "list", body)
		vars, labels := params(), []api.Param{{Name: "k", Type: list}, {Name: "k", Type: stream}}
		check.Check(p)
		check.Fault(p)
		check.Type(p, vars, labels, p.Funs[1].Body)
		if !reflect.DeepEqual(p, kept) || !slices.Equal(vars, params()) || labels[0].Type != list || labels[1].Type != stream {
			t.Errorf("%s: modified", body)
		}
	}
}

func TestR4ElementsBeyondTheLength(t *testing.T) {
	p := program(t, "list", "case list(l) { Nil() => l, Cons(a, b) => b }")
	kept := program(t, "list", "case list(l) { Nil() => l, Cons(a, b) => b }")
	p.Funs = append(p.Funs, api.Fun{Name: "bad"})[:4]
	p.Decls = append(p.Decls, api.Decl{Name: "bad"})[:4]
	vars := append(params(), api.Param{Name: "l", Type: 99})
	if typ, e := check.Type(p, vars[:4], nil, p.Funs[1].Body); typ != list || e != api.OK {
		t.Errorf("read: %d %d", typ, e)
	}
	if e := check.Check(p); e != api.OK {
		t.Errorf("read: %d", e)
	}
	if !reflect.DeepEqual(p, kept) || vars[4].Type != 99 || p.Funs[:5][4].Name != "bad" || p.Decls[:5][4].Name != "bad" {
		t.Error("written")
	}
}
