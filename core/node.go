package core

import "chiasmus/api"

// sort is what a node is.
type sort int

const (
	producer sort = iota
	consumer
	command
	wrong // no valid node
)

// variable is a producer variable or a consumer variable. The numbers of the two sorts are separate.
type variable struct {
	sort sort
	n    int
}

// shape tells which fields an operator uses, and of which sorts its Args are where neither an xtor nor a function decides that.
type shape struct {
	sort             sort
	n, typ, branches bool
	args             []sort
}

var shapes = [...]shape{
	api.PVar:   {sort: producer, n: true},
	api.PInt:   {sort: producer, n: true},
	api.PXtor:  {sort: producer, n: true, typ: true},
	api.PMu:    {sort: producer, n: true, typ: true, args: []sort{command}},
	api.PMatch: {sort: producer, typ: true, branches: true},
	api.CVar:   {sort: consumer, n: true},
	api.CXtor:  {sort: consumer, n: true, typ: true},
	api.CMu:    {sort: consumer, n: true, typ: true, args: []sort{command}},
	api.CMatch: {sort: consumer, typ: true, branches: true},
	api.KCut:   {sort: command, typ: true, args: []sort{producer, consumer}},
	api.KPrim:  {sort: command, n: true, args: []sort{producer, producer, consumer}},
	api.KIfz:   {sort: command, args: []sort{producer, command, command}},
	api.KEmit:  {sort: command, args: []sort{producer, command}},
	api.KCall:  {sort: command, n: true},
	api.KDone:  {sort: command, args: []sort{producer}},
}

// shapeOf returns the shape of an operator: those that are not of the core language use no fields.
func shapeOf(op int) shape {
	if op < 0 || op >= len(shapes) {
		return shape{sort: wrong}
	}
	return shapes[op]
}

// isLeaf reports whether nodes with this operator have no children, whatever their fields are.
func isLeaf(op int) bool {
	return op == api.PVar || op == api.CVar || op == api.PInt
}

// occurrence returns the variable that n is, if it is one.
func occurrence(n api.Node) (x variable, ok bool) {
	switch n.Op {
	case api.PVar:
		return variable{producer, n.N}, true
	case api.CVar:
		return variable{consumer, n.N}, true
	}
	return variable{}, false
}

// boundInArgs returns the variable that n binds in its Args, if it binds one.
func boundInArgs(n api.Node) []variable {
	switch n.Op {
	case api.PMu:
		return []variable{{consumer, n.N}}
	case api.CMu:
		return []variable{{producer, n.N}}
	}
	return nil
}

// boundIn returns the variables that b binds in its body, one for each of its Vars.
func boundIn(b api.Branch) []variable {
	out := make([]variable, len(b.Vars))
	for i, n := range b.Vars {
		out[i] = variable{sortOf(i < len(b.Co) && b.Co[i]), n}
	}
	return out
}

// asBranch returns f as a branch: a function binds its parameters as a branch binds its variables.
func asBranch(f api.CoreFun) api.Branch {
	b := api.Branch{Vars: f.Vars, Body: f.Body}
	for _, a := range f.Params {
		b.Co = append(b.Co, a.Co)
	}
	return b
}

func sortOf(co bool) sort {
	if co {
		return consumer
	}
	return producer
}

func sortsOf(args []api.Arg) []sort {
	var out []sort
	for _, a := range args {
		out = append(out, sortOf(a.Co))
	}
	return out
}
