package lower_test

import (
	"slices"
	"testing"

	"chiasmus/api"
	"chiasmus/direct"
	"chiasmus/heads"
	"chiasmus/prim"
	"chiasmus/sample"
)

// message is an integer, or an xtor with its arguments.
type message struct {
	n    int
	args []item
}

// item is what a producer or a consumer means. Producers of positive types and consumers of negative ones send a message; the others receive one.
type item struct {
	send    func(to func(message))
	receive func(message)
}

func value(m message) item {
	return item{send: func(to func(message)) { to(m) }}
}

type variable struct {
	n  int
	co bool
}

type meanings map[variable]item

// runner runs core programs as they are: an argument that is to send a message does so first, from left to right.
type runner struct {
	c    api.Core
	fuel int
	out  api.Run
}

func (r *runner) sends(a api.Arg) bool {
	negative := a.Type > 0 && r.c.Decls[a.Type-1].Codata
	return negative == a.Co
}

func (g meanings) with(numbers []int, args []api.Arg, items []item) meanings {
	out := meanings{}
	for x, to := range g {
		out[x] = to
	}
	for i, n := range numbers {
		out[variable{n, args[i].Co}] = items[i]
	}
	return out
}

func (r *runner) item(g meanings, n api.Node) item {
	switch n.Op {
	case api.PVar, api.CVar:
		return g[variable{n.N, n.Op == api.CVar}]
	case api.PInt:
		return value(message{n: n.N})
	case api.PXtor, api.CXtor:
		return item{send: func(to func(message)) {
			r.each(g, n.Args, heads.Args(r.c, n), func(l []item) { to(message{n.N, l}) })
		}}
	case api.PMatch, api.CMatch:
		return item{receive: func(m message) {
			b, x := n.Branches[m.n], r.c.Decls[n.Type-1].Xtors[m.n]
			r.run(g.with(b.Vars, x.Args, m.args), b.Body)
		}}
	}
	a := api.Arg{Type: n.Type, Co: n.Op == api.CMu}
	bind := func(x item) { r.run(g.with([]int{n.N}, []api.Arg{{Co: !a.Co}}, []item{x}), n.Args[0]) }
	if r.sends(a) {
		return item{send: func(to func(message)) { bind(item{receive: to}) }}
	}
	return item{receive: func(m message) { bind(value(m)) }}
}

// each gives what the nodes mean to next, after those that are to send a message have done so.
func (r *runner) each(g meanings, nodes []api.Node, args []api.Arg, next func([]item), before ...item) {
	if len(before) == len(nodes) {
		next(before)
		return
	}
	i := len(before)
	x := r.item(g, nodes[i])
	if !r.sends(args[i]) {
		r.each(g, nodes, args, next, append(slices.Clip(before), x)...)
		return
	}
	x.send(func(m message) { r.each(g, nodes, args, next, append(slices.Clip(before), value(m))...) })
}

func (r *runner) run(g meanings, k api.Node) {
	if r.fuel == 0 {
		return
	}
	r.fuel--
	integer := func(n api.Node, next func(n int)) {
		r.item(g, n).send(func(m message) { next(m.n) })
	}
	switch k.Op {
	case api.KCut:
		p, c := r.item(g, k.Args[0]), r.item(g, k.Args[1])
		if !r.sends(api.Arg{Type: k.Type}) {
			p, c = c, p
		}
		p.send(c.receive)
	case api.KPrim:
		integer(k.Args[0], func(a int) {
			integer(k.Args[1], func(b int) {
				r.item(g, k.Args[2]).receive(message{n: prim.Result(k.N, a, b)})
			})
		})
	case api.KIfz:
		integer(k.Args[0], func(n int) {
			if n == 0 {
				r.run(g, k.Args[1])
			} else {
				r.run(g, k.Args[2])
			}
		})
	case api.KEmit:
		integer(k.Args[0], func(n int) {
			r.out.Outs = append(r.out.Outs, n)
			r.run(g, k.Args[1])
		})
	case api.KCall:
		f := r.c.Funs[k.N]
		r.each(g, k.Args, f.Params, func(l []item) { r.run(meanings{}.with(f.Vars, f.Params, l), f.Body) })
	case api.KDone:
		integer(k.Args[0], func(n int) { r.out.End, r.out.Val = api.Done, n })
	}
}

// result returns the run of c with any number of steps.
func result(c api.Core, fuel int, inputs []int) api.Run {
	r := &runner{c: c, fuel: fuel, out: api.Run{End: api.Spent}}
	var l []item
	for _, n := range inputs {
		l = append(l, value(message{n: n}))
	}
	f := c.Funs[0]
	r.run(meanings{}.with(f.Vars, f.Params, l), f.Body)
	return r.out
}

func sameRun(a, b api.Run) bool {
	return a.End == b.End && a.Val == b.Val && slices.Equal(a.Outs, b.Outs)
}

// P8.4: the translation means the same.
func TestP8_4Meaning(t *testing.T) {
	s := sample.Numbers(4)
	emitted, others := 0, 0
	for _, p := range made(t, 5, 0, 4000) {
		inputs := []int{s.Below(5) - 2, s.Below(5) - 2}
		want, e := direct.Run(p, 1500, inputs)
		if want.End != api.Done || e != api.OK {
			others++
			continue
		}
		if got := result(lowered(t, p), 1<<20, inputs); !sameRun(got, want) {
			t.Fatalf("%v: %v, not %v", p, got, want)
		}
		if len(want.Outs) > 1 {
			emitted++
		}
	}
	if emitted < 100 || others > 2000 {
		t.Errorf("%d with emissions, %d that do not end", emitted, others)
	}
}

func TestP8_4Programs(t *testing.T) {
	for name, c := range map[string]struct {
		source string
		inputs []int
	}{
		"the order of arguments":    {"fun main() : int = f(emit(1, 10), emit(2, from(20)), emit(3, 30)); fun f(a : int, b : stream, c : int) : int = ((c - a) + (b.Head() + b.Tail().Head()));" + from, nil},
		"arguments of constructors": {"fun main() : int = case pair(Pair(emit(1, from(1)), emit(2, 3), emit(4, cocase fn { Ap(a, b, c) => a, Get() => emit(5, 6), To(f) => f, Pick(p, s) => p }), emit(7, Cons(emit(8, 9), Nil())))) { Pair(s, n, g, l) => (((s.Head() + n) + (g.Get() + g.Get())) + case list(l) { Nil() => 0, Cons(a, b) => a }), Single(s) => 1 };" + from, nil},
		"arguments of observations": {"fun main() : int = case list(emit(1, cocase fn { Ap(l, s, n) => emit(n, Cons(s.Head(), l)), Get() => 1, To(f) => f, Pick(p, s) => p }).Ap(emit(2, Nil()), emit(3, from(4)), emit(5, 6))) { Nil() => 0, Cons(a, b) => a };" + from, nil},
		"a let of each polarity":    {"fun main(n : int) : int = let(x : int = emit(1, n), let(s : stream = emit(2, from(x)), ((x + x) * (s.Head() + s.Tail().Head()))));" + from, []int{5}},
		"a jump":                    {"fun main() : int = label(k : int, (emit(1, 2) + (goto(k, emit(3, 4) : int) + emit(5, 6))));", nil},
		"a jump out of an object":   {"fun main() : int = label(k : int, (100 + label(j : stream, cocase stream { Head() => goto(k, 7 : int), Tail() => goto(j, from(8) : stream) }).Tail().Head()));" + from, nil},
		"a call of main":            {"fun main(n : int) : int = ifz(n, 7, emit(n, (main((n - 1)) + 1)));", []int{5}},
		"a jump in a copy of main":  {"fun main(n : int) : int = label(k : int, ifz(n, 7, (main((n - 1)) + goto(k, emit(n, 5) : int))));", []int{3}},
	} {
		p := parse(t, declText+c.source)
		want, e := direct.Run(p, api.MaxFuel, c.inputs)
		if want.End != api.Done || e != api.OK {
			t.Fatalf("%s: %v %d", name, want, e)
		}
		if got := result(lowered(t, p), 1<<16, c.inputs); !sameRun(got, want) {
			t.Errorf("%s: %v, not %v", name, got, want)
		}
	}
}

const from = "fun from(n : int) : stream = cocase stream { Head() => n, Tail() => from((n + 1)) };"
