package direct

import (
	"slices"

	"chiasmus/api"
	"chiasmus/prim"
)

// continuation is what the value of a term is passed to. Since a label may be used again after its term has been left, a continuation may receive any number of values: receiving one does not change it.
type continuation interface {
	receive(m *machine, v value) task
}

// finish receives the result of main.
type finish struct{}

func (finish) receive(m *machine, v value) task {
	n, ok := v.(integer)
	if !ok {
		return m.end(api.Stuck)
	}
	m.run.Val = int(n)
	return m.end(api.Done)
}

// leftOperand receives the first operand of a TPrim.
type leftOperand struct {
	of evaluation
}

func (k leftOperand) receive(m *machine, v value) task {
	a, ok := v.(integer)
	if !ok {
		return m.end(api.Stuck)
	}
	return k.of.arg(1, rightOperand{k.of, a})
}

// rightOperand receives the second operand of a TPrim.
type rightOperand struct {
	of   evaluation
	left integer
}

func (k rightOperand) receive(m *machine, v value) task {
	b, ok := v.(integer)
	if !ok {
		return m.end(api.Stuck)
	}
	n := prim.Result(k.of.t.N, int(k.left), int(b))
	return passing{integer(n), k.of.next}
}

// zeroTest receives what a TIfz tests.
type zeroTest struct {
	of evaluation
}

func (k zeroTest) receive(m *machine, v value) task {
	n, ok := v.(integer)
	if !ok {
		return m.end(api.Stuck)
	}
	if n == 0 {
		return k.of.arg(1, k.of.next)
	}
	return k.of.arg(2, k.of.next)
}

// emission receives what a TEmit emits.
type emission struct {
	of evaluation
}

func (k emission) receive(m *machine, v value) task {
	n, ok := v.(integer)
	if !ok {
		return m.end(api.Stuck)
	}
	m.run.Outs = append(m.run.Outs, int(n))
	return k.of.arg(1, k.of.next)
}

// analysis receives what a TCase analyzes.
type analysis struct {
	of evaluation
}

func (k analysis) receive(m *machine, v value) task {
	x, ok := v.(construct)
	if !ok || x.typ != k.of.t.Type {
		return m.end(api.Stuck)
	}
	c := k.of.t.Clauses[x.n]
	return evaluation{closure{c.Body, k.of.env.bind(c.Names, x.args)}, k.of.next}
}

// observation receives the object of a TDtor, whose arguments are bound.
type observation struct {
	of   evaluation
	args []item
}

func (k observation) receive(m *machine, v value) task {
	x, ok := v.(object)
	if !ok || x.t.Type != k.of.t.Type {
		return m.end(api.Stuck)
	}
	c := x.t.Clauses[k.of.t.N]
	return evaluation{closure{c.Body, x.env.bind(c.Names, k.args)}, k.of.next}
}

// binding receives the value of the first of the terms that are still to be bound.
type binding struct {
	terms []api.Term
	types []int
	env   env
	bound []item
	then  func(bound []item) task
}

func (k binding) receive(m *machine, v value) task {
	return k.with(held{v}).resume(m)
}

// with copies what is bound: the same binding may go on with another value later.
func (k binding) with(x item) binding {
	k.terms, k.types = k.terms[1:], k.types[1:]
	k.bound = append(slices.Clip(k.bound), x)
	return k
}

// resume binds the terms that are left, up to one that must be evaluated.
func (k binding) resume(m *machine) task {
	for len(k.terms) > 0 {
		first := closure{k.terms[0], k.env}
		if !m.lazy[k.types[0]] {
			return evaluation{first, k}
		}
		k = k.with(thunk{first})
	}
	return k.then(k.bound)
}

// bind binds terms by their types, from left to right, and then goes on with what they are bound to.
func (m *machine) bind(terms []api.Term, types []int, e env, then func(bound []item) task) task {
	return binding{terms: terms, types: types, env: e, then: then}.resume(m)
}
