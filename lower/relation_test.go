package lower_test

import (
	"slices"
	"strconv"
	"strings"
	"testing"

	"chiasmus/api"
	"chiasmus/check"
	"chiasmus/core"
	"chiasmus/kind"
	"chiasmus/lower"
	"chiasmus/term"
)

// writer writes the translation of a program as the table of the chapter has it, with the types that the type checker gives to the terms.
type writer struct {
	p    api.Prog
	next int
}

// place is what is in scope: names with types, and the variables for them.
type place struct {
	vars, labels []api.Param
	xs, as       []string
}

func (g place) variable(name string) (string, int) {
	return last(g.vars, g.xs, name)
}

func (g place) label(name string) (string, int) {
	return last(g.labels, g.as, name)
}

func last(l []api.Param, of []string, name string) (string, int) {
	for i := len(l) - 1; i >= 0; i-- {
		if l[i].Name == name {
			return of[i], l[i].Type
		}
	}
	panic(name)
}

func (g place) with(name string, typ int, x string) place {
	g.vars = append(slices.Clip(g.vars), api.Param{Name: name, Type: typ})
	g.xs = append(slices.Clip(g.xs), x)
	return g
}

func (g place) marked(name string, typ int, a string) place {
	g.labels = append(slices.Clip(g.labels), api.Param{Name: name, Type: typ})
	g.as = append(slices.Clip(g.as), a)
	return g
}

func (w *writer) fresh(letter string) string {
	w.next++
	return letter + strconv.Itoa(w.next)
}

func (w *writer) typ(n int) string {
	if n == 0 {
		return "int"
	}
	return w.p.Decls[n-1].Name
}

func (w *writer) typeOf(g place, t api.Term) string {
	typ, e := check.Type(w.p, g.vars, g.labels, t)
	if e != api.OK {
		panic(e)
	}
	return w.typ(typ)
}

func (w *writer) all(g place, l []api.Term, more ...string) string {
	var out []string
	for _, t := range l {
		out = append(out, w.producer(g, t))
	}
	return strings.Join(append(out, more...), ", ")
}

func (w *writer) cut(typ string, g place, t api.Term, c string) string {
	return "cut(" + typ + ", " + w.producer(g, t) + ", " + c + ")"
}

// branches writes the branches for the clauses of t. The bodies go to a, or each to a consumer of its own.
func (w *writer) branches(g place, t api.Term, a string) string {
	var out []string
	for n, c := range t.Clauses {
		x := w.p.Decls[t.Type-1].Xtors[n]
		inner, to, vars := g, a, []string{}
		for i, name := range c.Names {
			vars = append(vars, w.fresh("x"))
			inner = inner.with(name, x.Args[i].Type, vars[i])
		}
		if a == "" {
			to = w.fresh("a")
			vars = append(vars, to)
		}
		out = append(out, x.Name+"("+strings.Join(vars, ", ")+") => "+w.cut(w.typeOf(inner, c.Body), inner, c.Body, to))
	}
	return "match " + w.typ(t.Type) + " { " + strings.Join(out, ", ") + " }"
}

func (w *writer) producer(g place, t api.Term) string {
	switch t.Op {
	case api.TVar:
		x, _ := g.variable(t.Name)
		return x
	case api.TInt:
		return strconv.Itoa(t.N)
	case api.TCon:
		return w.p.Decls[t.Type-1].Xtors[t.N].Name + "(" + w.all(g, t.Args) + ")"
	case api.TCocase:
		return w.branches(g, t, "")
	case api.TLabel:
		a := w.fresh("a")
		return "mu(" + a + " : " + w.typ(t.Type) + ", " + w.cut(w.typ(t.Type), g.marked(t.Name, t.Type, a), t.Args[0], a) + ")"
	}
	a, typ := w.fresh("a"), w.typeOf(g, t)
	return "mu(" + a + " : " + typ + ", " + w.command(g, t, a, typ) + ")"
}

func (w *writer) command(g place, t api.Term, a, typ string) string {
	switch t.Op {
	case api.TPrim:
		return "prim(" + []string{"+", "-", "*", "/", "%", "==", "<"}[t.N] + ", " + w.all(g, t.Args, a) + ")"
	case api.TIfz:
		return "ifz(" + w.producer(g, t.Args[0]) + ", " + w.cut(typ, g, t.Args[1], a) + ", " + w.cut(typ, g, t.Args[2], a) + ")"
	case api.TCase:
		return w.cut(w.typ(t.Type), g, t.Args[0], w.branches(g, t, a))
	case api.TDtor:
		last := len(t.Args) - 1
		return w.cut(w.typ(t.Type), g, t.Args[last], w.p.Decls[t.Type-1].Xtors[t.N].Name+"("+w.all(g, t.Args[:last], a)+")")
	case api.TLet:
		x := w.fresh("x")
		return w.cut(w.typ(t.Type), g, t.Args[0], "comu("+x+" : "+w.typ(t.Type)+", "+w.cut(typ, g.with(t.Name, t.Type, x), t.Args[1], a)+")")
	case api.TCall:
		name := w.p.Funs[t.N].Name
		if t.N == 0 {
			name = "main0"
		}
		return "call " + name + "(" + w.all(g, t.Args, a) + ")"
	case api.TEmit:
		return "emit(" + w.producer(g, t.Args[0]) + ", " + w.cut(typ, g, t.Args[1], a) + ")"
	case api.TGoto:
		k, to := g.label(t.Name)
		return w.cut(w.typ(to), g, t.Args[0], k)
	}
	panic(t.Op)
}

// fun writes a function; with a name for the last parameter if it is not main.
func (w *writer) fun(f api.Fun, a string) string {
	var params []string
	var g place
	for _, b := range f.Params {
		x := w.fresh("x")
		params = append(params, x+" : "+w.typ(b.Type))
		g = g.with(b.Name, b.Type, x)
	}
	to := a
	if a == "" {
		to = "comu(x0 : int, done(x0))"
	} else {
		params = append(params, a+" : "+w.typ(f.Result))
	}
	return "fun " + f.Name + "(" + strings.Join(params, ", ") + ") = " + w.cut(w.typ(f.Result), g, f.Body, to) + ";\n"
}

// translation returns the string of the translation of p, the main function of which has the name main.
func translation(p api.Prog) string {
	w := &writer{p: p}
	out := w.fun(p.Funs[0], "")
	for _, f := range p.Funs[1:] {
		out += w.fun(f, w.fresh("a"))
	}
	calls, _ := term.Calls(p)
	for _, l := range calls {
		if slices.Contains(l, 0) {
			f := p.Funs[0]
			f.Name = "main0"
			return declText + out + w.fun(f, w.fresh("a"))
		}
	}
	return declText + out
}

func TestP8_1AgainstTheTable(t *testing.T) {
	copied, compared := 0, 0
	for _, p := range made(t, 1, 0, 1200) {
		c := lowered(t, p)
		want := translation(p)
		if len(want) > api.MaxText {
			continue
		}
		wants(t, "made", c, want)
		compared++
		if len(c.Funs) > len(p.Funs) {
			copied++
		}
	}
	if copied < 100 || compared-copied < 100 {
		t.Errorf("%d of %d with a copy of main", copied, compared)
	}
}

// P8.3: the translation is well-typed. It is valid, since otherwise this would be ErrCore.
func TestP8_3WellTyped(t *testing.T) {
	for _, p := range made(t, 2, 0, 1200) {
		if e := kind.Check(lowered(t, p)); e != api.OK {
			t.Fatalf("%v: %d", p, e)
		}
	}
	for _, c := range table {
		p := parse(t, declText+"fun main() : int = 1;\nfun f(x : int, l : list, s : stream, g : fn) : "+c.result+" = "+c.body+";\n"+others)
		if e := kind.Check(lowered(t, p)); e != api.OK {
			t.Errorf("%s: %d", c.name, e)
		}
	}
}

func TestP8_1NotWellTyped(t *testing.T) {
	wrong := 0
	for _, p := range made(t, 3, 30, 1500) {
		want := check.Check(p)
		c, e := lower.Lower(p)
		if e != want || e != api.OK && (c.Decls != nil || c.Funs != nil) {
			t.Fatalf("%v: %v %d, not %d", p, c, e, want)
		}
		if e == api.ErrType {
			wrong++
		}
	}
	if wrong < 300 || wrong > 1200 {
		t.Errorf("%d of them not well-typed", wrong)
	}
}

// choice returns an analysis, the clauses of which have these bodies in turn.
func choice(l ...api.Term) api.Term {
	out := api.Term{Op: api.TCase, Type: 1, Args: []api.Term{{Op: api.TCon, Type: 1, N: 5}}}
	for i := range api.MaxXtors {
		out.Clauses = append(out.Clauses, api.Clause{Body: l[i%len(l)]})
	}
	return out
}

// deep returns a term of the given depth with all that becomes large.
func deep(depth int) api.Term {
	one := api.Term{Op: api.TInt, N: 1}
	t := one
	for i := range depth - 1 {
		switch i % 3 {
		case 0:
			t = api.Term{Op: api.TIfz, Args: []api.Term{one, one, t}}
		case 1:
			t = api.Term{Op: api.TLet, Name: "x", Args: []api.Term{t, one}}
		case 2:
			t = choice(t, one, one, one, one, one)
		}
	}
	return t
}

// The largest programs have translations, also if main is copied.
func TestP8_1LargePrograms(t *testing.T) {
	d := api.Decl{Name: "d"}
	for _, name := range []string{"A", "B", "C", "D", "E", "F"} {
		d.Xtors = append(d.Xtors, api.Xtor{Name: name})
	}
	again := api.Term{Op: api.TPrim, Args: []api.Term{deep(api.MaxDepth - 1), {Op: api.TCall}}}
	part := deep(api.MaxDepth - 1)
	for name, body := range map[string]api.Term{
		"deep": again,
		"wide": choice(part, part, part, part, part, api.Term{Op: api.TCall}),
	} {
		p := api.Prog{Decls: []api.Decl{d}, Funs: []api.Fun{{Name: "main", Body: body}}}
		n, _ := term.Nodes(p)
		c := lowered(t, p)
		size, depth := core.Size(c.Funs[1].Body)
		if kind.Check(c) != api.OK || len(c.Funs) != 2 || size < 2*n || depth < 2*api.MaxDepth {
			t.Errorf("%s: %d nodes have become %d in %d functions, with the depth %d", name, n, size, len(c.Funs), depth)
		}
	}
}
