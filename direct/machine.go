package direct

import (
	"chiasmus/api"
	"chiasmus/decl"
)

// machine is a run of a program, up to now.
type machine struct {
	prog api.Prog
	lazy []bool // for each type, whether its terms are bound without being evaluated
	fuel int
	run  api.Run
}

func newMachine(p api.Prog, fuel int) *machine {
	m := &machine{prog: p, lazy: make([]bool, len(p.Decls)+1), fuel: fuel}
	for typ := range m.lazy {
		positive, _ := decl.Positive(p.Decls, typ)
		m.lazy[typ] = !positive
	}
	return m
}

// task is what a machine does next. Tasks follow each other in a loop instead of calling each other: there may be more of them than calls can be nested.
type task interface {
	// do returns the task that follows, or nil if the run has ended.
	do(m *machine) task
}

func (m *machine) start(inputs []int) api.Run {
	args := make([]item, len(inputs))
	for i, n := range inputs {
		args[i] = held{integer(n)}
	}
	next := m.body(m.prog.Funs[0], args, finish{})
	for next != nil {
		next = next.do(m)
	}
	return m.run
}

func (m *machine) end(how int) task {
	m.run.End = how
	return nil
}

// body evaluates the body of f, which sees nothing but its parameters.
func (m *machine) body(f api.Fun, args []item, next continuation) task {
	names := make([]string, len(f.Params))
	for i, a := range f.Params {
		names[i] = a.Name
	}
	return evaluation{closure{f.Body, env{}.bind(names, args)}, next}
}

// passing is a task: to pass a value to a continuation. It is no step.
type passing struct {
	v    value
	next continuation
}

func (p passing) do(m *machine) task {
	return p.next.receive(m, p.v)
}
