package direct

import "chiasmus/api"

// closure is a term with the environment in which it is evaluated.
type closure struct {
	t   api.Term
	env env
}

// value is an integer, a construct or an object.
type value interface {
	isValue()
}

type integer int

// construct is a constructor of a data type with what its arguments are bound to.
type construct struct {
	typ, n int
	args   []item
}

// object is a TCocase with the environment of its clauses.
type object struct {
	closure
}

func (integer) isValue()   {}
func (construct) isValue() {}
func (object) isValue()    {}

// item is what a variable, or an argument of a constructor, is bound to.
type item interface {
	// force returns the task that gets the value of the item to next.
	force(next continuation) task
}

// held is an item whose value is known.
type held struct {
	v value
}

func (h held) force(next continuation) task {
	return passing{h.v, next}
}

// thunk is an item that is evaluated each time it is forced.
type thunk struct {
	closure
}

func (s thunk) force(next continuation) task {
	return evaluation{s.closure, next}
}
