package text

import (
	"strconv"
	"strings"

	"chiasmus/api"
	"chiasmus/decl"
	"chiasmus/pen"
	"chiasmus/prim"
)

// writer writes the string of a valid program.
type writer struct {
	funs []api.Fun
	pen.Pen
}

func text(p api.Prog) string {
	w := writer{funs: p.Funs, Pen: pen.Pen{Decls: p.Decls}}
	decls, _ := decl.String(p.Decls)
	w.Put(decls)
	for _, f := range p.Funs {
		w.fun(f)
	}
	return w.String()
}

func (w *writer) fun(f api.Fun) {
	w.Put("fun ", f.Name, "(")
	for i, a := range f.Params {
		w.Separate(i)
		w.Put(a.Name, " : ", w.Type(a.Type))
	}
	w.Put(") : ", w.Type(f.Result), " = ")
	w.term(f.Body)
	w.Put(";\n")
}

func (w *writer) term(t api.Term) {
	switch t.Op {
	case api.TVar:
		w.Put(t.Name)
	case api.TInt:
		w.Put(strconv.Itoa(t.N))
	case api.TPrim:
		w.Put("(")
		w.term(t.Args[0])
		w.Put(" ", prim.Sign(t.N), " ")
		w.term(t.Args[1])
		w.Put(")")
	case api.TIfz:
		w.apply("ifz", t.Args)
	case api.TCon:
		w.apply(w.Xtor(t.Type, t.N), t.Args)
	case api.TCase:
		w.Put("case ", w.Type(t.Type))
		w.apply("", t.Args)
		w.clauses(t)
	case api.TDtor:
		object := len(t.Args) - 1
		w.term(t.Args[object])
		w.Put(".")
		w.apply(w.Xtor(t.Type, t.N), t.Args[:object])
	case api.TCocase:
		w.Put("cocase ", w.Type(t.Type))
		w.clauses(t)
	case api.TLet:
		w.Put("let(", t.Name, " : ", w.Type(t.Type), " = ")
		w.term(t.Args[0])
		w.Put(", ")
		w.term(t.Args[1])
		w.Put(")")
	case api.TCall:
		w.apply(w.funs[t.N].Name, t.Args)
	case api.TEmit:
		w.apply("emit", t.Args)
	case api.TLabel:
		w.Put("label(", t.Name, " : ", w.Type(t.Type), ", ")
		w.term(t.Args[0])
		w.Put(")")
	case api.TGoto:
		w.Put("goto(", t.Name, ", ")
		w.term(t.Args[0])
		w.Put(" : ", w.Type(t.Type), ")")
	}
}

// apply writes what has the form of a call.
func (w *writer) apply(head string, args []api.Term) {
	w.Put(head, "(")
	for i, a := range args {
		w.Separate(i)
		w.term(a)
	}
	w.Put(")")
}

func (w *writer) clauses(t api.Term) {
	w.Put(" { ")
	for i, c := range t.Clauses {
		w.Separate(i)
		w.Put(w.Xtor(t.Type, i), "(", strings.Join(c.Names, ", "), ") => ")
		w.term(c.Body)
	}
	w.Put(" }")
}
