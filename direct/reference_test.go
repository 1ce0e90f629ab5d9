package direct_test

import (
	"maps"

	"chiasmus/api"
)

// The reference evaluates terms by functions that call each other and never return, instead of frames that follow each other in a loop. It takes p to be valid.
type reference struct {
	p     api.Prog
	fuel  int
	run   api.Run
	again int // how often a label passed a second value to its continuation
}

type passer func(v any)

// bound passes what a name is bound to.
type bound func(k passer)

type scope struct {
	vars   map[string]bound
	labels map[string]passer
}

type data struct {
	typ, n int
	args   []bound
}

type codata struct {
	of api.Term
	s  scope
}

// over ends the run by a panic.
type over struct{}

func reach(p api.Prog, fuel int, inputs []int) (r *reference) {
	r = &reference{p: p, fuel: fuel}
	defer func() {
		if _, ok := recover().(over); !ok {
			panic("the reference must end by a panic of its own")
		}
	}()
	var args []bound
	for _, n := range inputs {
		args = append(args, func(k passer) { k(n) })
	}
	r.enter(p.Funs[0], args, func(v any) {
		r.run.Val = r.integer(v)
		r.end(api.Done)
	})
	return r
}

func (r *reference) end(how int) {
	r.run.End = how
	panic(over{})
}

func (r *reference) integer(v any) int {
	n, ok := v.(int)
	if !ok {
		r.end(api.Stuck)
	}
	return n
}

func (s scope) bind(names []string, to []bound) scope {
	s.vars = maps.Clone(s.vars)
	for i, name := range names {
		s.vars[name] = to[i]
	}
	return s
}

func (r *reference) enter(f api.Fun, args []bound, k passer) {
	s := scope{map[string]bound{}, map[string]passer{}}
	for i, a := range f.Params {
		s.vars[a.Name] = args[i]
	}
	r.eval(f.Body, s, k)
}

func (r *reference) eval(t api.Term, s scope, k passer) {
	if r.run.Steps >= r.fuel {
		r.end(api.Spent)
	}
	r.run.Steps++
	switch t.Op {
	case api.TVar:
		s.vars[t.Name](k)
	case api.TInt:
		k(t.N)
	case api.TPrim:
		r.integerOf(t.Args[0], s, func(a int) {
			r.integerOf(t.Args[1], s, func(b int) { k(compute(t.N, a, b)) })
		})
	case api.TIfz:
		r.integerOf(t.Args[0], s, func(n int) {
			if n != 0 {
				r.eval(t.Args[2], s, k)
			}
			r.eval(t.Args[1], s, k)
		})
	case api.TEmit:
		r.integerOf(t.Args[0], s, func(n int) {
			r.run.Outs = append(r.run.Outs, n)
			r.eval(t.Args[1], s, k)
		})
	case api.TLabel:
		s.labels = maps.Clone(s.labels)
		s.labels[t.Name] = r.counted(k)
		r.eval(t.Args[0], s, k)
	case api.TGoto:
		r.eval(t.Args[0], s, s.labels[t.Name])
	default:
		r.evalBinder(t, s, k)
	}
}

func (r *reference) counted(k passer) passer {
	uses := 0
	return func(v any) {
		uses++
		if uses == 2 {
			r.again++
		}
		k(v)
	}
}

func (r *reference) evalBinder(t api.Term, s scope, k passer) {
	switch t.Op {
	case api.TCon:
		r.bindAll(t.Args, r.args(t), s, func(l []bound) { k(data{t.Type, t.N, l}) })
	case api.TCase:
		r.eval(t.Args[0], s, func(v any) {
			d, ok := v.(data)
			if !ok || d.typ != t.Type {
				r.end(api.Stuck)
			}
			c := t.Clauses[d.n]
			r.eval(c.Body, s.bind(c.Names, d.args), k)
		})
	case api.TDtor:
		object := t.Args[len(t.Args)-1]
		r.bindAll(t.Args[:len(t.Args)-1], r.args(t), s, func(l []bound) {
			r.eval(object, s, func(v any) {
				o, ok := v.(codata)
				if !ok || o.of.Type != t.Type {
					r.end(api.Stuck)
				}
				c := o.of.Clauses[t.N]
				r.eval(c.Body, o.s.bind(c.Names, l), k)
			})
		})
	case api.TCocase:
		k(codata{t, s})
	case api.TLet:
		r.bindOne(t.Args[0], t.Type, s, func(b bound) {
			r.eval(t.Args[1], s.bind([]string{t.Name}, []bound{b}), k)
		})
	case api.TCall:
		f := r.p.Funs[t.N]
		var types []int
		for _, a := range f.Params {
			types = append(types, a.Type)
		}
		r.bindAll(t.Args, types, s, func(l []bound) { r.enter(f, l, k) })
	}
}

func (r *reference) integerOf(t api.Term, s scope, k func(n int)) {
	r.eval(t, s, func(v any) { k(r.integer(v)) })
}

func (r *reference) args(t api.Term) []int {
	var types []int
	for _, a := range r.p.Decls[t.Type-1].Xtors[t.N].Args {
		types = append(types, a.Type)
	}
	return types
}

func (r *reference) bindOne(t api.Term, typ int, s scope, k func(b bound)) {
	if typ > 0 && r.p.Decls[typ-1].Codata {
		k(func(k passer) { r.eval(t, s, k) })
	}
	r.eval(t, s, func(v any) { k(func(k passer) { k(v) }) })
}

func (r *reference) bindAll(l []api.Term, types []int, s scope, k func(l []bound)) {
	if len(l) == 0 {
		k(nil)
	}
	r.bindOne(l[0], types[0], s, func(b bound) {
		r.bindAll(l[1:], types[1:], s, func(l []bound) { k(append([]bound{b}, l...)) })
	})
}

func compute(op, a, b int) int {
	switch {
	case op == api.Add:
		return a + b
	case op == api.Sub:
		return a - b
	case op == api.Mul:
		return a * b
	case op == api.Div && b != 0:
		return a / b
	case op == api.Mod && b == 0:
		return a
	case op == api.Mod:
		return a % b
	case op == api.Eq && a == b, op == api.Lt && a < b:
		return 1
	}
	return 0
}
