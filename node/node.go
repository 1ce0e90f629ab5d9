// Package node is about the nodes of the core language: of which sort they are, where their variables are bound, which of them are valid, and which are serious. Every layer that looks into nodes shares it, so that all of them agree.
package node

import "chiasmus/api"

// Sort is what a node is. The first two are also the sorts of variables.
type Sort int

const (
	Producer Sort = iota
	Consumer
	Command
	Wrong // no valid node
)

// Variable is a producer variable or a consumer variable. The numbers of the two sorts are separate.
type Variable struct {
	Sort Sort
	N    int
}

// shape tells which fields an operator uses, and of which sorts its Args are where neither an xtor nor a function decides that.
type shape struct {
	sort             Sort
	n, typ, branches bool
	args             []Sort
}

var shapes = [...]shape{
	api.PVar:   {sort: Producer, n: true},
	api.PInt:   {sort: Producer, n: true},
	api.PXtor:  {sort: Producer, n: true, typ: true},
	api.PMu:    {sort: Producer, n: true, typ: true, args: []Sort{Command}},
	api.PMatch: {sort: Producer, typ: true, branches: true},
	api.CVar:   {sort: Consumer, n: true},
	api.CXtor:  {sort: Consumer, n: true, typ: true},
	api.CMu:    {sort: Consumer, n: true, typ: true, args: []Sort{Command}},
	api.CMatch: {sort: Consumer, typ: true, branches: true},
	api.KCut:   {sort: Command, typ: true, args: []Sort{Producer, Consumer}},
	api.KPrim:  {sort: Command, n: true, args: []Sort{Producer, Producer, Consumer}},
	api.KIfz:   {sort: Command, args: []Sort{Producer, Command, Command}},
	api.KEmit:  {sort: Command, args: []Sort{Producer, Command}},
	api.KCall:  {sort: Command, n: true},
	api.KDone:  {sort: Command, args: []Sort{Producer}},
}

// shapeOf returns the shape of an operator: those that are not of the core language use no fields.
func shapeOf(op int) shape {
	if op < 0 || op >= len(shapes) {
		return shape{sort: Wrong}
	}
	return shapes[op]
}

// Uses reports whether nodes with this operator use the field N, and whether they use the field Type.
func Uses(op int) (n, typ bool) {
	s := shapeOf(op)
	return s.n, s.typ
}

// IsLeaf reports whether nodes with this operator have no children, whatever their fields are.
func IsLeaf(op int) bool {
	return op == api.PVar || op == api.CVar || op == api.PInt
}

// Occurrence returns the variable that n is, if it is one.
func Occurrence(n api.Node) (x Variable, ok bool) {
	switch n.Op {
	case api.PVar:
		return Variable{Producer, n.N}, true
	case api.CVar:
		return Variable{Consumer, n.N}, true
	}
	return Variable{}, false
}

// BoundInArgs returns the variable that n binds in its Args, if it binds one.
func BoundInArgs(n api.Node) []Variable {
	switch n.Op {
	case api.PMu:
		return []Variable{{Consumer, n.N}}
	case api.CMu:
		return []Variable{{Producer, n.N}}
	}
	return nil
}

// BoundIn returns the variables that b binds in its body, one for each of its Vars.
func BoundIn(b api.Branch) []Variable {
	out := make([]Variable, len(b.Vars))
	for i, n := range b.Vars {
		out[i] = Variable{sortOf(i < len(b.Co) && b.Co[i]), n}
	}
	return out
}

// AsBranch returns f as a branch: a function binds its parameters as a branch binds its variables.
func AsBranch(f api.CoreFun) api.Branch {
	b := api.Branch{Vars: f.Vars, Body: f.Body}
	for _, a := range f.Params {
		b.Co = append(b.Co, a.Co)
	}
	return b
}

// Closed returns a node that binds the variables of the parameters of f in its body: its only branch.
func Closed(f api.CoreFun) api.Node {
	return api.Node{Op: api.CMatch, Branches: []api.Branch{AsBranch(f)}}
}

func sortOf(co bool) Sort {
	if co {
		return Consumer
	}
	return Producer
}

func sortsOf(args []api.Arg) []Sort {
	var out []Sort
	for _, a := range args {
		out = append(out, sortOf(a.Co))
	}
	return out
}
