package term

import (
	"chiasmus/api"
)

// fields tells which fields a term has: whether it uses N, Name and Type, and the numbers of its Args and Clauses.
type fields struct {
	n, name, typ  bool
	args, clauses int
}

// has reports whether t has exactly these fields: all others are 0 or empty.
func has(t api.Term, f fields) bool {
	return (f.n || t.N == 0) && (f.name || t.Name == "") && (f.typ || t.Type == 0) &&
		len(t.Args) == f.args && len(t.Clauses) == f.clauses
}

// fits reports whether t has the fields that its operator requires. It does not look at subterms and names.
func fits(p api.Prog, t api.Term) bool {
	switch t.Op {
	case api.TVar:
		return has(t, fields{name: true})
	case api.TInt:
		return has(t, fields{n: true})
	case api.TPrim:
		return has(t, fields{n: true, args: 2}) && api.Add <= t.N && t.N <= api.Lt
	case api.TIfz:
		return has(t, fields{args: 3})
	case api.TCon:
		return isDeclared(p, t.Type, false) && fitsXtor(p, t)
	case api.TCase:
		return isDeclared(p, t.Type, false) && fitsClauses(p, t, 1)
	case api.TDtor:
		return isDeclared(p, t.Type, true) && fitsXtor(p, t)
	case api.TCocase:
		return isDeclared(p, t.Type, true) && fitsClauses(p, t, 0)
	case api.TLet:
		return has(t, fields{name: true, typ: true, args: 2}) && isType(p, t.Type)
	case api.TCall:
		return isIndex(t.N, len(p.Funs)) && has(t, fields{n: true, args: len(p.Funs[t.N].Params)})
	case api.TEmit:
		return has(t, fields{args: 2})
	case api.TLabel, api.TGoto:
		return has(t, fields{name: true, typ: true, args: 1}) && isType(p, t.Type)
	}
	return false
}

// isDeclared reports whether t is a declared codata type, or a declared data type, as codata says.
func isDeclared(p api.Prog, t int, codata bool) bool {
	return 1 <= t && t <= len(p.Decls) && p.Decls[t-1].Codata == codata
}

// fitsXtor asks for as many Args as the xtor has arguments: for a destructor the object makes up for the consumer.
func fitsXtor(p api.Prog, t api.Term) bool {
	xtors := p.Decls[t.Type-1].Xtors
	return isIndex(t.N, len(xtors)) && has(t, fields{n: true, typ: true, args: len(xtors[t.N].Args)})
}

func fitsClauses(p api.Prog, t api.Term, args int) bool {
	xtors := p.Decls[t.Type-1].Xtors
	if !has(t, fields{typ: true, args: args, clauses: len(xtors)}) {
		return false
	}
	for i, c := range t.Clauses {
		if len(c.Names) != producers(xtors[i]) {
			return false
		}
	}
	return true
}

func producers(x api.Xtor) int {
	n := 0
	for _, a := range x.Args {
		if !a.Co {
			n++
		}
	}
	return n
}

func isIndex(i, length int) bool {
	return 0 <= i && i < length
}
