package direct

import (
	"chiasmus/api"
	"chiasmus/heads"
)

// evaluation is a task: to evaluate a term in an environment, with a continuation. Each is a step.
type evaluation struct {
	closure
	next continuation
}

func (e evaluation) do(m *machine) task {
	if m.run.Steps == m.fuel {
		return m.end(api.Spent)
	}
	m.run.Steps++
	switch e.t.Op {
	case api.TVar:
		return e.env.vars.find(e.t.Name).force(e.next)
	case api.TInt:
		return passing{integer(e.t.N), e.next}
	case api.TPrim:
		return e.arg(0, leftOperand{e})
	case api.TIfz:
		return e.arg(0, zeroTest{e})
	case api.TCon:
		return e.construct(m)
	case api.TCase:
		return e.arg(0, analysis{e})
	case api.TDtor:
		return e.observe(m)
	case api.TCocase:
		return passing{object{e.closure}, e.next}
	case api.TLet:
		return e.let(m)
	case api.TCall:
		return e.call(m)
	case api.TEmit:
		return e.arg(0, emission{e})
	case api.TLabel:
		return evaluation{closure{e.t.Args[0], e.env.mark(e.t.Name, e.next)}, e.next}
	case api.TGoto:
		return e.arg(0, e.env.labels.find(e.t.Name))
	}
	return m.end(api.Stuck)
}

// arg evaluates an argument of the term in the same environment.
func (e evaluation) arg(i int, next continuation) task {
	return evaluation{closure{e.t.Args[i], e.env}, next}
}

func (e evaluation) construct(m *machine) task {
	return m.bind(e.t.Args, m.argTypes(e.t), e.env, func(args []item) task {
		return passing{construct{e.t.Type, e.t.N, args}, e.next}
	})
}

// observe evaluates the object, which is the last of the Args, only when the arguments are bound.
func (e evaluation) observe(m *machine) task {
	last := len(e.t.Args) - 1
	return m.bind(e.t.Args[:last], m.argTypes(e.t), e.env, func(args []item) task {
		return e.arg(last, observation{e, args})
	})
}

func (e evaluation) let(m *machine) task {
	return m.bind(e.t.Args[:1], []int{e.t.Type}, e.env, func(bound []item) task {
		return evaluation{closure{e.t.Args[1], e.env.bind([]string{e.t.Name}, bound)}, e.next}
	})
}

func (e evaluation) call(m *machine) task {
	f := m.prog.Funs[e.t.N]
	return m.bind(e.t.Args, heads.Params(f), e.env, func(args []item) task {
		return m.body(f, args, e.next)
	})
}

// argTypes returns the types of those arguments of the xtor of t that terms are given for.
func (m *machine) argTypes(t api.Term) []int {
	return heads.Producers(m.prog.Decls[t.Type-1].Xtors[t.N])
}
