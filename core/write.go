package core

import (
	"strconv"

	"chiasmus/api"
	"chiasmus/decl"
	"chiasmus/node"
	"chiasmus/pen"
	"chiasmus/prim"
)

// writer writes the string of a valid core program.
type writer struct {
	funs []api.CoreFun
	pen.Pen
}

func text(c api.Core) string {
	w := writer{funs: c.Funs, Pen: pen.Pen{Decls: c.Decls}}
	decls, _ := decl.String(c.Decls)
	w.Put(decls)
	for _, f := range c.Funs {
		w.fun(f)
	}
	return w.String()
}

func (w *writer) fun(f api.CoreFun) {
	w.Put("fun ", f.Name, "(")
	for i, x := range node.BoundIn(node.AsBranch(f)) {
		w.Separate(i)
		w.Put(variable(x), " : ", w.Type(f.Params[i].Type))
	}
	w.Put(") = ")
	w.node(f.Body)
	w.Put(";\n")
}

func variable(x node.Variable) string {
	if x.Sort == node.Consumer {
		return "a" + strconv.Itoa(x.N)
	}
	return "x" + strconv.Itoa(x.N)
}

func (w *writer) node(n api.Node) {
	switch n.Op {
	case api.PVar, api.CVar:
		x, _ := node.Occurrence(n)
		w.Put(variable(x))
	case api.PInt:
		w.Put(strconv.Itoa(n.N))
	case api.PXtor, api.CXtor:
		w.apply(w.Xtor(n.Type, n.N), "", n.Args)
	case api.PMu:
		w.mu("mu", n)
	case api.CMu:
		w.mu("comu", n)
	case api.PMatch, api.CMatch:
		w.match(n)
	case api.KCut:
		w.apply("cut", w.Type(n.Type)+", ", n.Args)
	case api.KPrim:
		w.apply("prim", prim.Sign(n.N)+", ", n.Args)
	case api.KIfz:
		w.apply("ifz", "", n.Args)
	case api.KEmit:
		w.apply("emit", "", n.Args)
	case api.KCall:
		w.apply("call "+w.funs[n.N].Name, "", n.Args)
	case api.KDone:
		w.apply("done", "", n.Args)
	}
}

// apply writes what has the form of an application; first stands before the arguments.
func (w *writer) apply(head, first string, args []api.Node) {
	w.Put(head, "(", first)
	for i, a := range args {
		w.Separate(i)
		w.node(a)
	}
	w.Put(")")
}

func (w *writer) mu(head string, n api.Node) {
	w.apply(head, variable(node.BoundInArgs(n)[0])+" : "+w.Type(n.Type)+", ", n.Args)
}

func (w *writer) match(n api.Node) {
	w.Put("match ", w.Type(n.Type), " { ")
	for i, b := range n.Branches {
		w.Separate(i)
		w.Put(w.Xtor(n.Type, i), "(")
		for j, x := range node.BoundIn(b) {
			w.Separate(j)
			w.Put(variable(x))
		}
		w.Put(") => ")
		w.node(b.Body)
	}
	w.Put(" }")
}
