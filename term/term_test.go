package term

import (
	"fmt"
	"maps"
	"math"
	"reflect"
	"slices"
	"strconv"
	"strings"
	"testing"

	"chiasmus/api"
)

// valids returns valid programs, some of which reach the limits.
func valids() map[string]api.Prog {
	one := func(body api.Term) api.Prog {
		return api.Prog{Funs: []api.Fun{{Name: "main", Body: body}}}
	}
	out := map[string]api.Prog{
		"the first example":         program(let("x", 0, prim(api.Add, v("n"), num(1)), v("x"))),
		"no declarations":           one(num(0)),
		"not named main":            {Funs: []api.Fun{{Name: "start", Body: num(0)}}},
		"the least integer":         one(num(math.MinInt)),
		"the greatest integer":      one(num(math.MaxInt)),
		"not well-typed":            program(prim(api.Add, con(list, 0), object(stream, clause(num(1)), clause(num(2))))),
		"functions are not names":   program(let("main", 0, num(1), let("sum", 0, v("main"), v("sum")))),
		"types are not names":       program(let("list", list, con(list, 0), v("list"))),
		"a label named like a var":  program(label("n", 0, jump("n", 0, v("n")))),
		"inner bindings shadow":     program(let("n", 0, v("n"), let("n", 0, v("n"), label("n", 0, label("n", 0, jump("n", 0, v("n"))))))),
		"a call of main":            program(call(0, num(1))),
		"a label inside an object":  program(label("k", 0, dtor(stream, 0, object(stream, clause(jump("k", 0, num(1))), clause(num(2)))))),
		"clauses with equal names":  program(object(stream, clause(v("n")), clause(match(list, num(1), clause(num(1)), clause(v("n"), "n", "m"))))),
		"as deep as permitted":      one(chain(api.MaxDepth)),
		"as large as permitted":     one(bush(api.MaxNodes)),
		"as large in two functions": {Funs: []api.Fun{{Name: "main", Body: bush(api.MaxNodes - 100)}, {Name: "more", Body: bush(100)}}},
		"all functions":             {Funs: manyFuns(api.MaxFuns)},
	}
	params := []api.Param{{Name: "a"}, {Name: "b"}, {Name: "c"}, {Name: "d"}, {Name: "e"}, {Name: "f"}}
	out["all parameters"] = api.Prog{Funs: []api.Fun{{Name: "main", Params: params, Body: v("f")}}}
	p := program(num(1))
	p.Funs[1].Params = []api.Param{{Name: "l", Type: list}, {Name: "s", Type: stream}, {Name: "f", Type: fn}}
	p.Funs[1].Result = fn
	p.Funs[1].Body = v("f")
	p.Funs[1].Name = "list"
	out["parameters and results of all types"] = p
	return out
}

// changed returns a valid program after a change.
func changed(change func(p *api.Prog)) api.Prog {
	p := program(num(1))
	change(&p)
	return p
}

// invalids returns a program for each way in which a program may be invalid apart from its terms.
func invalids() map[string]api.Prog {
	out := map[string]api.Prog{
		"nothing":                {},
		"no functions":           changed(func(p *api.Prog) { p.Funs = nil }),
		"too many functions":     {Funs: manyFuns(api.MaxFuns + 1)},
		"invalid declarations":   changed(func(p *api.Prog) { p.Decls[0].Name = "fun" }),
		"a doubled xtor":         changed(func(p *api.Prog) { p.Decls[1].Xtors[0].Name = "Nil" }),
		"a consumer in data":     changed(func(p *api.Prog) { p.Decls[0].Xtors[1].Args[0].Co = true }),
		"no consumer in codata":  changed(func(p *api.Prog) { p.Decls[1].Xtors[0].Args = nil }),
		"two consumers":          changed(func(p *api.Prog) { p.Decls[2].Xtors[0].Args[0].Co = true }),
		"no name":                changed(func(p *api.Prog) { p.Funs[0].Name = "" }),
		"a reserved name":        changed(func(p *api.Prog) { p.Funs[2].Name = "let" }),
		"an uppercase name":      changed(func(p *api.Prog) { p.Funs[2].Name = "Zero" }),
		"a long name":            changed(func(p *api.Prog) { p.Funs[2].Name = strings.Repeat("a", api.MaxName+1) }),
		"a doubled function":     changed(func(p *api.Prog) { p.Funs[2].Name = "sum" }),
		"a doubled main":         changed(func(p *api.Prog) { p.Funs[2].Name = "main" }),
		"a nameless parameter":   changed(func(p *api.Prog) { p.Funs[0].Params[0].Name = "" }),
		"a reserved parameter":   changed(func(p *api.Prog) { p.Funs[0].Params[0].Name = "int" }),
		"a parameter in Unicode": changed(func(p *api.Prog) { p.Funs[0].Params[0].Name = "é" }),
		"a doubled parameter":    changed(func(p *api.Prog) { p.Funs[2].Params = []api.Param{{Name: "a"}, {Name: "b"}, {Name: "a"}} }),
		"no type of a parameter": changed(func(p *api.Prog) { p.Funs[2].Params = []api.Param{{Name: "a", Type: 4}} }),
		"a negative parameter":   changed(func(p *api.Prog) { p.Funs[2].Params = []api.Param{{Name: "a", Type: -1}} }),
		"no result type":         changed(func(p *api.Prog) { p.Funs[2].Result = 4 }),
		"a negative result":      changed(func(p *api.Prog) { p.Funs[2].Result = math.MinInt }),
		"main with data":         changed(func(p *api.Prog) { p.Funs[0].Params[0].Type = list }),
		"main with codata":       changed(func(p *api.Prog) { p.Funs[0].Params[0].Type = stream }),
		"main returns data":      changed(func(p *api.Prog) { p.Funs[0].Result = list }),
		"main returns codata":    changed(func(p *api.Prog) { p.Funs[0].Result = stream }),
		"a label from nowhere":   program(jump("k", 0, num(1))),
		"too deep":               program(chain(api.MaxDepth + 1)),
		"too deep elsewhere":     changed(func(p *api.Prog) { p.Funs[2].Body = chain(api.MaxDepth + 1) }),
		"far too deep":           program(chain(1 << 16)),
		"too large":              {Funs: []api.Fun{{Name: "main", Body: bush(api.MaxNodes + 1)}}},
		"too large together":     {Funs: []api.Fun{{Name: "main", Body: bush(api.MaxNodes - 100)}, {Name: "more", Body: bush(101)}}},
		"a bad body elsewhere":   changed(func(p *api.Prog) { p.Funs[2].Body = v("n") }),
		"another's parameter":    program(v("l")),
	}
	out["too many parameters"] = changed(func(p *api.Prog) {
		for i := range api.MaxArgs + 1 {
			p.Funs[2].Params = append(p.Funs[2].Params, api.Param{Name: "a" + strconv.Itoa(i)})
		}
	})
	return out
}

func TestP2_1CheckAcceptsValid(t *testing.T) {
	for name, p := range valids() {
		if e := Check(p); e != api.OK {
			t.Errorf("%s: %d", name, e)
		}
	}
}

func TestP2_1CheckRejectsInvalid(t *testing.T) {
	for name, p := range invalids() {
		if e := Check(p); e != api.ErrProg {
			t.Errorf("%s: %d", name, e)
		}
	}
	for name, x := range badTerms() {
		if e := Check(program(x)); e != api.ErrProg {
			t.Errorf("%s: %d", name, e)
		}
	}
}

// With an error, all other results are zero (R3).
func TestP2_1AllReturnErrProg(t *testing.T) {
	for name, p := range invalids() {
		for _, x := range []api.Term{num(1), v("x"), {Op: -1}, chain(api.MaxDepth + 1)} {
			if b, e := Term(p, []string{"x"}, nil, x); b || e != api.ErrProg {
				t.Errorf("%s: Term: %v %d", name, b, e)
			}
		}
		if n, e := Nodes(p); n != 0 || e != api.ErrProg {
			t.Errorf("%s: Nodes: %d %d", name, n, e)
		}
		if l, e := Calls(p); len(l) != 0 || e != api.ErrProg {
			t.Errorf("%s: Calls: %v %d", name, l, e)
		}
	}
}

// badTerms returns terms that are invalid where the variables n, x and y and the label k are in scope.
func badTerms() map[string]api.Term {
	out := map[string]api.Term{}
	for _, l := range []map[string]api.Term{badData(), badCodata(), badOthers()} {
		maps.Copy(out, l)
	}
	return out
}

func badData() map[string]api.Term {
	x, one := v("x"), num(1)
	return map[string]api.Term{
		"constructor of integers":   con(0, 0),
		"constructor of codata":     con(stream, 0, one),
		"constructor of no type":    con(4, 0),
		"constructor of less":       con(-1, 0),
		"constructor of the least":  con(math.MinInt, 0),
		"no constructor":            con(list, 2),
		"constructor below":         con(list, -1),
		"too few arguments":         con(list, 1, one),
		"too many arguments":        con(list, 0, one),
		"case of integers":          match(0, x),
		"case of codata":            match(fn, x, clause(one, "a", "b")),
		"case of no type":           match(4, x),
		"a clause is missing":       match(list, x, clause(one)),
		"clauses in another order":  match(list, x, clause(one, "a", "b"), clause(one)),
		"names are missing":         match(list, x, clause(one), clause(one, "a")),
		"a name for nothing":        match(list, x, clause(one, "a"), clause(one, "a", "b")),
		"three names":               match(list, x, clause(one), clause(one, "a", "b", "c")),
		"the same name twice":       match(list, x, clause(one), clause(one, "a", "a")),
		"a reserved name":           match(list, x, clause(one), clause(one, "a", "goto")),
		"an empty name":             match(list, x, clause(one), clause(one, "", "b")),
		"an uppercase name":         match(list, x, clause(one), clause(one, "A", "b")),
		"a long name":               match(list, x, clause(one), clause(one, "abcdefghijk", "b")),
		"used in another clause":    match(list, x, clause(v("a")), clause(one, "a", "b")),
		"used in the analyzed term": match(list, v("a"), clause(one), clause(one, "a", "b")),
	}
}

func badCodata() map[string]api.Term {
	x, y, one := v("x"), v("y"), num(1)
	return map[string]api.Term{
		"destructor of integers":     dtor(0, 0, one),
		"destructor of data":         dtor(list, 1, x, y),
		"destructor without object":  dtor(list, 0),
		"destructor of no type":      dtor(4, 0, one),
		"no destructor":              dtor(stream, 2, one),
		"destructor below":           dtor(stream, -1, one),
		"no object":                  dtor(stream, 0),
		"no object, but arguments":   dtor(fn, 0, one, one),
		"an argument for a consumer": dtor(fn, 0, one, one, one, one),
		"cocase of integers":         object(0),
		"cocase of data":             object(list, clause(one), clause(one, "a", "b")),
		"cocase of no type":          object(4),
		"a destructor is missing":    object(stream, clause(one)),
		"a name for the consumer":    object(stream, clause(one, "a"), clause(one)),
		"three names for two":        object(fn, clause(one, "a", "b", "c")),
		"one name for two":           object(fn, clause(one, "a")),
		"the same name in an object": object(fn, clause(one, "a", "a")),
	}
}

func badOthers() map[string]api.Term {
	x, y, one := v("x"), v("y"), num(1)
	return map[string]api.Term{
		"no operator below":           {Op: -1},
		"no operator above":           {Op: api.TGoto + 1},
		"the least operator":          {Op: math.MinInt},
		"the greatest operator":       {Op: math.MaxInt},
		"no variable":                 v("z"),
		"a nameless variable":         v(""),
		"a label as a variable":       v("k"),
		"a variable as a label":       jump("x", 0, one),
		"no label":                    jump("j", 0, one),
		"primitive below":             prim(-1, one, one),
		"primitive above":             prim(api.Lt+1, one, one),
		"let without a name":          let("", 0, one, one),
		"let of a reserved name":      let("case", 0, one, one),
		"let of an uppercase name":    let("Z", 0, one, one),
		"let of a negative type":      let("z", -1, one, one),
		"let of no type":              let("z", 4, one, one),
		"let is not recursive":        let("z", 0, v("z"), one),
		"let binds no label":          let("j", 0, one, jump("j", 0, one)),
		"used after its let":          emit(let("z", 0, one, v("z")), v("z")),
		"call of no function":         call(3),
		"call below":                  call(-1),
		"call of the greatest":        call(math.MaxInt),
		"call with too few":           call(1),
		"call with too many":          call(2, one),
		"label without a name":        label("", 0, one),
		"label of a reserved name":    label("label", 0, one),
		"label of a negative type":    label("j", -1, one),
		"label of no type":            label("j", 4, one),
		"label binds no variable":     label("j", 0, v("j")),
		"used after its label":        emit(label("j", 0, one), jump("j", 0, one)),
		"goto with a negative type":   jump("k", -1, one),
		"goto with no type":           jump("k", 4, one),
		"deep below":                  emit(one, let("z", 0, one, ifz(x, y, object(stream, clause(one), clause(v("w")))))),
		"two arguments of a variable": {Op: api.TVar, Name: "x", Args: []api.Term{one, one}},
	}
}

func TestP2_2TermAcceptsSamples(t *testing.T) {
	p := program(num(1))
	for op, x := range samples() {
		if x.Op != op {
			t.Fatalf("operator %d at %d", x.Op, op)
		}
		if b, e := Term(p, []string{"x", "y"}, []string{"k"}, x); !b || e != api.OK {
			t.Errorf("operator %d: %v %d", op, b, e)
		}
	}
}

func TestP2_2TermRejects(t *testing.T) {
	p := program(num(1))
	for name, x := range badTerms() {
		for _, y := range []api.Term{x, emit(num(1), x), label("l", 0, x), object(stream, clause(num(1)), clause(x))} {
			if b, e := Term(p, []string{"n", "x", "y"}, []string{"k"}, y); b || e != api.OK {
				t.Errorf("%s: %v %d", name, b, e)
			}
		}
	}
}

// uses returns which of the fields N, Name and Type an operator has.
func uses(op int) (n, name, typ bool) {
	in := func(l ...int) bool { return slices.Contains(l, op) }
	n = in(api.TInt, api.TPrim, api.TCon, api.TDtor, api.TCall)
	name = in(api.TVar, api.TLet, api.TLabel, api.TGoto)
	typ = in(api.TCon, api.TCase, api.TDtor, api.TCocase, api.TLet, api.TLabel, api.TGoto)
	return n, name, typ
}

func TestP2_2OtherFieldsAreEmpty(t *testing.T) {
	p := program(num(1))
	one := num(1)
	for op, x := range samples() {
		n, name, typ := uses(op)
		bad := map[string]api.Term{}
		if !n {
			bad["N"] = x
			bad["negative N"] = x
		}
		if !name {
			bad["Name"] = x
		}
		if !typ {
			bad["Type"] = x
		}
		bad["an Arg more"], bad["a Clause more"] = x, x
		if len(x.Args) > 0 {
			bad["an Arg less"] = x
		}
		if len(x.Clauses) > 0 {
			bad["a Clause less"] = x
			bad["a Name more"] = x
		}
		for field, y := range bad {
			y = clone(y)
			switch field {
			case "N":
				y.N = 1
			case "negative N":
				y.N = -1
			case "Name":
				y.Name = "x"
			case "Type":
				y.Type = 1
			case "an Arg more":
				y.Args = append(y.Args, one)
			case "a Clause more":
				y.Clauses = append(y.Clauses, clause(one))
			case "an Arg less":
				y.Args = y.Args[1:]
			case "a Clause less":
				y.Clauses = y.Clauses[1:]
			case "a Name more":
				y.Clauses[0].Names = append(y.Clauses[0].Names, "c")
			}
			if b, e := Term(p, []string{"x", "y", "c"}, []string{"k"}, y); b || e != api.OK {
				t.Errorf("operator %d, %s: %v %d", op, field, b, e)
			}
		}
	}
}

// An empty slice and nil are equivalent (R4).
func TestP2_2EmptySlices(t *testing.T) {
	p := program(num(1))
	for op, x := range samples() {
		if x.Args == nil {
			x.Args = []api.Term{}
		}
		if x.Clauses == nil {
			x.Clauses = []api.Clause{}
		}
		for i := range x.Clauses {
			if x.Clauses[i].Names == nil {
				x.Clauses[i].Names = []string{}
			}
		}
		if b, e := Term(p, []string{"x", "y"}, []string{"k"}, x); !b || e != api.OK {
			t.Errorf("operator %d: %v %d", op, b, e)
		}
	}
}

// The given names may be any strings, and any number of them.
func TestP2_2AnyNamesInScope(t *testing.T) {
	p := program(num(1))
	for _, s := range []string{"x", "", "let", "X", "x y", "é", "\xff\x00", strings.Repeat("x", 1000)} {
		if b, e := Term(p, []string{"a", s, s}, nil, v(s)); !b || e != api.OK {
			t.Errorf("variable %q: %v %d", s, b, e)
		}
		if b, e := Term(p, nil, []string{s, "a", s}, jump(s, 0, num(1))); !b || e != api.OK {
			t.Errorf("label %q: %v %d", s, b, e)
		}
		if b, e := Term(p, nil, []string{s}, v(s)); b || e != api.OK {
			t.Errorf("label %q as a variable: %v %d", s, b, e)
		}
		if b, e := Term(p, []string{s}, nil, jump(s, 0, num(1))); b || e != api.OK {
			t.Errorf("variable %q as a label: %v %d", s, b, e)
		}
	}
	many := make([]string, 300000)
	for i := range many {
		many[i] = "v" + strconv.Itoa(i)
	}
	x := v("v299999")
	for range api.MaxDepth - 1 {
		x = let("z", 0, num(1), x)
	}
	if b, e := Term(p, many, many, x); !b || e != api.OK {
		t.Errorf("many names: %v %d", b, e)
	}
	// The parameters of main are not in scope.
	if b, e := Term(p, nil, nil, v("n")); b || e != api.OK {
		t.Errorf("a parameter: %v %d", b, e)
	}
}

// The limits hold for the term alone, however large the program is.
func TestP2_2TermLimits(t *testing.T) {
	full := api.Prog{Funs: []api.Fun{{Name: "main", Body: bush(api.MaxNodes)}}}
	wide := api.Term{Op: api.TIfz, Args: make([]api.Term, 1<<20)}
	for _, c := range []struct {
		name string
		x    api.Term
		want bool
	}{
		{"deep", chain(api.MaxDepth), true},
		{"too deep", chain(api.MaxDepth + 1), false},
		{"far too deep", chain(1 << 16), false},
		{"too deep at the end", emit(num(1), chain(api.MaxDepth)), false},
		{"large", bush(api.MaxNodes), true},
		{"too large", bush(api.MaxNodes + 1), false},
		{"far too large", bush(2 * api.MaxNodes), false},
		{"wide", wide, false},
	} {
		if b, e := Term(full, nil, nil, c.x); b != c.want || e != api.OK {
			t.Errorf("%s: %v %d", c.name, b, e)
		}
	}
}

// A term whose parts share memory may have far more nodes than it takes.
func TestP2_2SharedParts(t *testing.T) {
	x := num(1)
	for range 60 {
		x = ifz(x, x, x)
	}
	if b, e := Term(program(num(1)), nil, nil, x); b || e != api.OK {
		t.Errorf("%v %d", b, e)
	}
	if e := Check(program(x)); e != api.ErrProg {
		t.Errorf("%d", e)
	}
}

func TestP2_2Nodes(t *testing.T) {
	for _, c := range []struct {
		p    api.Prog
		want int
	}{
		{api.Prog{Funs: []api.Fun{{Name: "main", Body: num(1)}}}, 1},
		{program(num(1)), 1 + 7 + 1},
		{program(let("x", 0, prim(api.Add, v("n"), num(1)), v("x"))), 5 + 7 + 1},
		{program(object(stream, clause(v("n")), clause(emit(v("n"), v("n"))))), 5 + 7 + 1},
		{api.Prog{Funs: []api.Fun{{Name: "main", Body: bush(api.MaxNodes)}}}, api.MaxNodes},
		{api.Prog{Funs: manyFuns(api.MaxFuns)}, api.MaxFuns},
		{valids()["parameters and results of all types"], 1 + 1 + 1},
	} {
		if n, e := Nodes(c.p); n != c.want || e != api.OK {
			t.Errorf("%d %d, not %d", n, e, c.want)
		}
	}
}

func TestP2_4Calls(t *testing.T) {
	p := func(bodies ...api.Term) api.Prog {
		l := manyFuns(api.MaxFuns)
		for i, b := range bodies {
			l[i].Body = b
		}
		return api.Prog{Decls: decls(), Funs: l}
	}
	rest := func(l ...[]int) [][]int {
		return append(l, make([][]int, api.MaxFuns-len(l))...)
	}
	for _, c := range []struct {
		name string
		p    api.Prog
		want [][]int
	}{
		{"none", p(), rest()},
		{"itself", p(call(0)), rest([]int{0})},
		{"order", p(ifz(call(7), call(11), call(2))), rest([]int{2, 7, 11})},
		{"duplicates", p(emit(call(1), emit(call(3), emit(call(1), call(3))))), rest([]int{1, 3})},
		{"each of its own", p(call(1), num(1), emit(call(1), call(0))), rest([]int{1}, nil, []int{0, 1})},
		{"in clauses", p(match(list, call(1), clause(call(5)), clause(call(4), "a", "b"))), rest([]int{1, 4, 5})},
		{"in objects", p(dtor(stream, 0, object(stream, clause(call(2)), clause(call(1))))), rest([]int{1, 2})},
		{"other numbers", p(prim(api.Mul, num(3), con(list, 1, num(2), call(4)))), rest([]int{4})},
	} {
		got, e := Calls(c.p)
		if len(got) != len(c.want) || e != api.OK {
			t.Errorf("%s: %v %d", c.name, got, e)
			continue
		}
		for i := range got {
			if !slices.Equal(got[i], c.want[i]) {
				t.Errorf("%s: %v, not %v", c.name, got, c.want)
			}
		}
	}
	if got, e := Calls(program(call(1, con(list, 1, v("n"), con(list, 0))))); fmt.Sprint(got) != "[[1] [1] []]" || e != api.OK {
		t.Errorf("%v %d", got, e)
	}
}

func TestP2_4CallsInArguments(t *testing.T) {
	p := program(call(0, call(1, call(2))))
	if got, e := Calls(p); fmt.Sprint(got) != "[[0 1 2] [1] []]" || e != api.OK {
		t.Errorf("%v %d", got, e)
	}
}

// A term that fits the program is valid if and only if its free names are in scope; more names change nothing.
func TestP2_5ScopeIsFreeNames(t *testing.T) {
	p := program(num(1))
	s := numbers(3)
	yes, no := 0, 0
	for range 20000 {
		x := s.fitting(1 + s.below(5))
		if _, ok := size(x); !ok {
			continue
		}
		vars, labels := Free(x)
		if b, e := Term(p, vars, labels, x); !b || e != api.OK {
			t.Fatalf("%v: free %v %v: %v %d", x, vars, labels, b, e)
		}
		if b, e := Term(p, append(vars, "a", "zz", ""), append(labels, "b", "A"), x); !b || e != api.OK {
			t.Fatalf("%v: more than %v %v: %v %d", x, vars, labels, b, e)
		}
		some, others := []string{s.name(), s.name()}, []string{s.name(), s.name()}
		want := subset(vars, some) && subset(labels, others)
		if b, e := Term(p, some, others, x); b != want || e != api.OK {
			t.Fatalf("%v: free %v %v, in scope %v %v: %v %d", x, vars, labels, some, others, b, e)
		}
		if want {
			yes++
		} else {
			no++
		}
	}
	if yes < 1000 || no < 1000 {
		t.Errorf("%d valid, %d invalid", yes, no)
	}
}

func subset(a, b []string) bool {
	return !slices.ContainsFunc(a, func(s string) bool { return !slices.Contains(b, s) })
}

func TestR4ArgumentsAreNotModified(t *testing.T) {
	vars, labels := []string{"y", "x", "x"}, []string{"k", "j", "k"}
	for _, x := range samples() {
		p := program(x)
		p.Funs[0].Params = []api.Param{{Name: "y"}, {Name: "x"}}
		keptProg, keptTerm := cloneProg(p), clone(x)
		Check(p)
		Term(p, vars, labels, x)
		Free(x)
		Nodes(p)
		Calls(p)
		if !reflect.DeepEqual(cloneProg(p), keptProg) || !reflect.DeepEqual(clone(x), keptTerm) {
			t.Errorf("operator %d: modified", x.Op)
		}
	}
	if !slices.Equal(vars, []string{"y", "x", "x"}) || !slices.Equal(labels, []string{"k", "j", "k"}) {
		t.Errorf("modified: %v %v", vars, labels)
	}
}

func TestR4ElementsBeyondTheLength(t *testing.T) {
	args := []api.Term{num(1), v("x"), v("no")}
	clauses := []api.Clause{clause(num(1)), clause(num(2)), clause(v("no"))}
	names := []string{"x", "y", "y"}
	x := emit(api.Term{Op: api.TPrim, Args: args[:2]}, object(stream, clauses[:2]...))
	x = object(fn, api.Clause{Names: names[:2], Body: x})
	if vars, _ := Free(x); len(vars) != 0 {
		t.Errorf("read: %v", vars)
	}
	if b, e := Term(program(num(1)), names[:0], nil, x); !b || e != api.OK {
		t.Errorf("read: %v %d", b, e)
	}
	funs := append(program(x).Funs, api.Fun{})
	if e := Check(api.Prog{Decls: decls(), Funs: funs[:3]}); e != api.OK {
		t.Errorf("read: %d", e)
	}
	if args[2].Name != "no" || clauses[2].Body.Name != "no" || names[2] != "y" || funs[3].Name != "" {
		t.Error("written")
	}
}

func TestR4ResultsAreNewMemory(t *testing.T) {
	p := program(call(0, call(1, num(1))))
	first, _ := Calls(p)
	for i := range first {
		for j := range first[i] {
			first[i][j] = 9
		}
		first[i] = append(first[i], 9)
	}
	if second, e := Calls(p); fmt.Sprint(second) != "[[0 1] [1] []]" || e != api.OK {
		t.Errorf("%v %d", second, e)
	}
	x := jump("k", 0, emit(v("b"), v("a")))
	vars, labels := Free(x)
	vars[0], labels[0] = "z", "z"
	if vars, labels = Free(x); fmt.Sprint(vars, labels) != "[a b] [k]" {
		t.Errorf("%v %v", vars, labels)
	}
}

// No call may panic (P1), whatever the fields of a term are.
func TestP1NoPanic(t *testing.T) {
	s := numbers(4)
	odd := []int{math.MinInt, -2, -1, 0, 1, 2, 8, 12, 13, math.MaxInt}
	for range 3000 {
		x := s.wild(4)
		for _, n := range odd {
			x.N = n
			p := program(x)
			Check(p)
			Term(program(num(1)), []string{"a", "b", "c", "d"}, []string{"a", "b", "c", "d"}, x)
			Free(x)
			Nodes(p)
			Calls(p)
		}
	}
	for _, n := range odd {
		for _, x := range samples() {
			for _, y := range []api.Term{{Op: n, Args: x.Args, Clauses: x.Clauses}, {Op: x.Op, Type: n, Name: x.Name, Args: x.Args, Clauses: x.Clauses}} {
				Term(program(num(1)), []string{"x", "y"}, []string{"k"}, y)
				Check(program(y))
				Free(y)
			}
		}
	}
}
