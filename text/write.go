package text

import (
	"strconv"
	"strings"

	"chiasmus/api"
	"chiasmus/decl"
	"chiasmus/prim"
)

// writer writes the string of a valid program.
type writer struct {
	prog api.Prog
	out  strings.Builder
}

func text(p api.Prog) string {
	w := writer{prog: p}
	decls, _ := decl.String(p.Decls)
	w.put(decls)
	for _, f := range p.Funs {
		w.fun(f)
	}
	return w.out.String()
}

func (w *writer) put(l ...string) {
	for _, s := range l {
		w.out.WriteString(s)
	}
}

// separate writes what stands before item i of a list.
func (w *writer) separate(i int) {
	if i > 0 {
		w.put(", ")
	}
}

func (w *writer) fun(f api.Fun) {
	w.put("fun ", f.Name, "(")
	for i, a := range f.Params {
		w.separate(i)
		w.put(a.Name, " : ", w.typ(a.Type))
	}
	w.put(") : ", w.typ(f.Result), " = ")
	w.term(f.Body)
	w.put(";\n")
}

func (w *writer) typ(t int) string {
	if t == 0 {
		return "int"
	}
	return w.prog.Decls[t-1].Name
}

func (w *writer) xtor(t, n int) string {
	return w.prog.Decls[t-1].Xtors[n].Name
}

func (w *writer) term(t api.Term) {
	switch t.Op {
	case api.TVar:
		w.put(t.Name)
	case api.TInt:
		w.put(strconv.Itoa(t.N))
	case api.TPrim:
		w.put("(")
		w.term(t.Args[0])
		w.put(" ", prim.Sign(t.N), " ")
		w.term(t.Args[1])
		w.put(")")
	case api.TIfz:
		w.apply("ifz", t.Args)
	case api.TCon:
		w.apply(w.xtor(t.Type, t.N), t.Args)
	case api.TCase:
		w.put("case ", w.typ(t.Type))
		w.apply("", t.Args)
		w.clauses(t)
	case api.TDtor:
		object := len(t.Args) - 1
		w.term(t.Args[object])
		w.put(".")
		w.apply(w.xtor(t.Type, t.N), t.Args[:object])
	case api.TCocase:
		w.put("cocase ", w.typ(t.Type))
		w.clauses(t)
	case api.TLet:
		w.put("let(", t.Name, " : ", w.typ(t.Type), " = ")
		w.term(t.Args[0])
		w.put(", ")
		w.term(t.Args[1])
		w.put(")")
	case api.TCall:
		w.apply(w.prog.Funs[t.N].Name, t.Args)
	case api.TEmit:
		w.apply("emit", t.Args)
	case api.TLabel:
		w.put("label(", t.Name, " : ", w.typ(t.Type), ", ")
		w.term(t.Args[0])
		w.put(")")
	case api.TGoto:
		w.put("goto(", t.Name, ", ")
		w.term(t.Args[0])
		w.put(" : ", w.typ(t.Type), ")")
	}
}

// apply writes what has the form of a call.
func (w *writer) apply(head string, args []api.Term) {
	w.put(head, "(")
	for i, a := range args {
		w.separate(i)
		w.term(a)
	}
	w.put(")")
}

func (w *writer) clauses(t api.Term) {
	w.put(" { ")
	for i, c := range t.Clauses {
		w.separate(i)
		w.put(w.xtor(t.Type, i), "(", strings.Join(c.Names, ", "), ") => ")
		w.term(c.Body)
	}
	w.put(" }")
}
