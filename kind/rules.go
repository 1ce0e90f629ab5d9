package kind

import (
	"chiasmus/api"
	"chiasmus/heads"
	"chiasmus/node"
)

// source is where a rule finds a type.
type source int

const (
	integers source = iota // type 0; a command, which has no type, counts as a node of this type
	field                  // the Type of the node
	scope                  // the variable that the node is
	head                   // the xtor or the function that the node applies
)

// rule tells which type a node has, and which types its Args must have. The bodies of branches are commands, whatever the operator is.
type rule struct {
	node, args source
}

var rules = [...]rule{
	api.PVar:   {node: scope},
	api.PInt:   {node: integers},
	api.PXtor:  {node: field, args: head},
	api.PMu:    {node: field, args: integers},
	api.PMatch: {node: field},
	api.CVar:   {node: scope},
	api.CXtor:  {node: field, args: head},
	api.CMu:    {node: field, args: integers},
	api.CMatch: {node: field},
	api.KCut:   {node: integers, args: field},
	api.KPrim:  {node: integers, args: integers},
	api.KIfz:   {node: integers, args: integers},
	api.KEmit:  {node: integers, args: integers},
	api.KCall:  {node: integers, args: head},
	api.KDone:  {node: integers, args: integers},
}

// checker finds the types of valid nodes of a valid program.
type checker struct {
	core api.Core
	scopes
}

func newChecker(c api.Core) checker {
	return checker{c, newScopes()}
}

// fun reports whether the body of f is well-typed.
func (c checker) fun(f api.CoreFun) bool {
	return c.branch(node.AsBranch(f), f.Params)
}

// branch reports whether the body of a branch that binds args is well-typed.
func (c checker) branch(b api.Branch, args []api.Arg) bool {
	defer c.bind(node.BoundIn(b), heads.Types(args))()
	_, ok := c.typeOf(b.Body)
	return ok
}

// typeOf returns the type of n, if it is well-typed.
func (c checker) typeOf(n api.Node) (typ int, ok bool) {
	if !c.args(n) || !c.branches(n) {
		return 0, false
	}
	switch rules[n.Op].node {
	case field:
		return n.Type, true
	case scope:
		x, _ := node.Occurrence(n)
		return c.find(x), true
	}
	return 0, true
}

// args reports whether all Args of n have the types that they must have.
func (c checker) args(n api.Node) bool {
	defer c.bind(node.BoundInArgs(n), []int{n.Type})()
	for i, a := range n.Args {
		typ, ok := c.typeOf(a)
		if !ok || typ != c.wanted(n, i) {
			return false
		}
	}
	return true
}

// wanted returns the type that the rule for n wants of its Args[i].
func (c checker) wanted(n api.Node, i int) int {
	switch rules[n.Op].args {
	case field:
		return n.Type
	case head:
		return heads.Args(c.core, n)[i].Type
	}
	return 0
}

// branches reports whether the bodies of all Branches of n are well-typed.
func (c checker) branches(n api.Node) bool {
	for i, b := range n.Branches {
		if !c.branch(b, c.core.Decls[n.Type-1].Xtors[i].Args) {
			return false
		}
	}
	return true
}
