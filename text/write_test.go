package text_test

import (
	"math"
	"reflect"
	"strings"
	"testing"

	"chiasmus/api"
	"chiasmus/term"
	"chiasmus/text"
)

// Example 1 of the chapter.
func TestP3_1Example(t *testing.T) {
	sum := with(typed(1, 0, node(api.TCase, v("l"))),
		api.Clause{Body: num(0)},
		api.Clause{Names: []string{"x", "r"}, Body: node(api.TPrim, v("x"), node(api.TCall, v("r")))})
	sum.Clauses[1].Body.Args[1].N = 1
	two := typed(1, 1, node(api.TCon, num(2), typed(1, 0, node(api.TCon))))
	p := api.Prog{Decls: decls()[:1], Funs: []api.Fun{
		{Name: "main", Params: []api.Param{{Name: "n"}}, Body: typed(0, 1, node(api.TCall, typed(1, 1, node(api.TCon, v("n"), two))))},
		{Name: "sum", Params: []api.Param{{Name: "l", Type: 1}}, Body: sum},
	}}
	want := `data list { Nil(), Cons(int, list) }
fun main(n : int) : int = sum(Cons(n, Cons(2, Nil())));
fun sum(l : list) : int = case list(l) { Nil() => 0, Cons(x, r) => (x + sum(r)) };
`
	if s, e := text.String(p); s != want || e != api.OK {
		t.Errorf("%d %s", e, s)
	}
	if q, e := text.Parse(want); !reflect.DeepEqual(q, p) || e != api.OK {
		t.Errorf("%d %v", e, q)
	}
}

func TestP3_1Terms(t *testing.T) {
	for _, x := range allSamples() {
		if s, e := text.String(program(x.t)); s != wrap(x.s) || e != api.OK {
			t.Errorf("%d %s, not %s", e, s, wrap(x.s))
		}
	}
}

func TestP3_1Functions(t *testing.T) {
	f := func(name string, result int, params ...api.Param) api.Fun {
		return api.Fun{Name: name, Params: params, Result: result, Body: num(0)}
	}
	p := api.Prog{
		Decls: []api.Decl{
			{Name: "a", Codata: true, Xtors: []api.Xtor{{Name: "A", Args: []api.Arg{{Type: 2}, {Type: 1, Co: true}}}}},
			{Name: "b", Xtors: []api.Xtor{{Name: "B", Args: []api.Arg{{Type: 1}}}}},
		},
		Funs: []api.Fun{
			f("main", 0, api.Param{Name: "x"}, api.Param{Name: "y"}),
			f("none", 1),
			f("some", 2, api.Param{Name: "x", Type: 2}, api.Param{Name: "y", Type: 1}, api.Param{Name: "z"}),
		},
	}
	want := `codata a { A(b, ~a) }
data b { B(a) }
fun main(x : int, y : int) : int = 0;
fun none() : a = 0;
fun some(x : b, y : a, z : int) : b = 0;
`
	if s, e := text.String(p); s != want || e != api.OK {
		t.Errorf("%d %s", e, s)
	}
}

func TestP3_1Invalid(t *testing.T) {
	good := program(num(1))
	decl, fun, name := good, good, good
	decl.Decls = append(decls(), api.Decl{Name: "none"})
	fun.Funs = nil
	name.Funs = []api.Fun{{Name: "let", Body: num(1)}}
	for what, p := range map[string]api.Prog{
		"nothing":                {},
		"an invalid declaration": decl,
		"no function":            fun,
		"a reserved name":        name,
		"a variable":             program(v("z")),
		"a label":                program(named("z", node(api.TGoto, num(1)))),
		"no operator":            program(node(13, num(1))),
		"a negative operator":    program(node(-1)),
		"no such operation":      program(typed(0, 7, node(api.TPrim, num(1), num(1)))),
		"no such type":           program(typed(9, 0, node(api.TCon))),
		"no such xtor":           program(typed(list, 2, node(api.TCon))),
		"no such function":       program(typed(0, 2, node(api.TCall))),
		"an Arg less":            program(node(api.TEmit, num(1))),
		"no object":              program(typed(stream, 0, node(api.TDtor))),
		"no Clauses":             program(typed(stream, 0, node(api.TCocase))),
		"one that is too deep":   program(chain(api.MaxDepth)),
	} {
		if s, e := text.String(p); s != "" || e != api.ErrProg {
			t.Errorf("%s: %d %q", what, e, s)
		}
	}
}

// chain returns a term of the given depth.
func chain(depth int) api.Term {
	t := num(1)
	for range depth - 1 {
		t = jumper(t)
	}
	return t
}

// An empty slice and nil are equivalent (R4).
func TestP3_1EmptySlices(t *testing.T) {
	x := api.Term{Op: api.TCall, Args: []api.Term{}, Clauses: []api.Clause{}}
	p := api.Prog{Decls: []api.Decl{}, Funs: []api.Fun{{Name: "main", Params: []api.Param{}, Body: x}}}
	if s, e := text.String(p); s != bare("main()") || e != api.OK {
		t.Errorf("%d %q", e, s)
	}
}

func TestR4ArgumentsAreNotModified(t *testing.T) {
	for _, x := range allSamples() {
		p, kept := program(x.t), cloneProg(program(x.t))
		text.String(p)
		if !reflect.DeepEqual(p, kept) {
			t.Errorf("modified: %s", x.s)
		}
	}
}

// cloneProg returns a copy whose terms share no memory with p.
func cloneProg(p api.Prog) api.Prog {
	out := api.Prog{Decls: decls()}
	for _, f := range p.Funs {
		f.Body = clone(f.Body)
		out.Funs = append(out.Funs, f)
	}
	return out
}

func clone(t api.Term) api.Term {
	args, clauses := t.Args, t.Clauses
	t.Args, t.Clauses = nil, nil
	for _, a := range args {
		t.Args = append(t.Args, clone(a))
	}
	for _, c := range clauses {
		t.Clauses = append(t.Clauses, api.Clause{Names: append([]string(nil), c.Names...), Body: clone(c.Body)})
	}
	return t
}

func TestR4ElementsBeyondTheLength(t *testing.T) {
	args := []api.Term{num(1), num(2), v("no")}
	params := []api.Param{{Name: "a"}, {Name: "no", Type: 9}}
	funs := []api.Fun{{Name: "main", Params: params[:1], Body: api.Term{Op: api.TEmit, Args: args[:2]}}, {Name: "no"}}
	if s, e := text.String(api.Prog{Decls: decls()[:0], Funs: funs[:1]}); s != "fun main(a : int) : int = emit(1, 2);\n" || e != api.OK {
		t.Errorf("read: %d %q", e, s)
	}
	if args[2].Name != "no" || params[1].Name != "no" || funs[1].Name != "no" {
		t.Error("written")
	}
}

// No call may panic (P1), whatever the fields of a term are.
func TestP1NoPanicInString(t *testing.T) {
	odd := []int{math.MinInt, -2, -1, 0, 1, 2, 3, 4, 7, 12, 13, math.MaxInt}
	for _, x := range samples() {
		for _, n := range odd {
			for _, y := range []api.Term{typed(n, x.t.N, x.t), typed(x.t.Type, n, x.t), named(strings.Repeat("x", n&15), x.t), with(x.t, make([]api.Clause, n&3)...), {Op: n, Args: x.t.Args, Clauses: x.t.Clauses}} {
				p := program(y)
				s, e := text.String(p)
				if e != term.Check(p) || (s != "") != (e == api.OK) {
					t.Errorf("%v: %d %q", y, e, s)
				}
			}
		}
	}
}
