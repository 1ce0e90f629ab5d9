package check_test

import (
	"slices"
	"testing"

	"chiasmus/api"
	"chiasmus/check"
	"chiasmus/sample"
	"chiasmus/term"
)

// labels has some labels, which no function body has in scope.
func labels() []api.Param {
	return []api.Param{{Name: "k"}, {Name: "x", Type: list}, {Name: "j", Type: stream}}
}

// made returns terms of all types, with and without a type, in the scope of the given variables and labels.
func made(p api.Prog, seed sample.Numbers, count int, labels []api.Param) []api.Term {
	m := sample.NewMaker(p, &seed, 12)
	var out []api.Term
	for range count {
		t := m.Term(2+m.Below(5), m.Below(len(p.Decls)+1), params(), labels)
		if vars, names := term.Free(t); len(names) > 0 || len(vars) > 0 || m.Below(4) == 0 {
			out = append(out, t)
		}
	}
	return out
}

func TestP4_2AgainstTheRelation(t *testing.T) {
	p := program(t, "list", "l")
	g := typesOf(params(), labels())
	typed, untyped := 0, 0
	for _, x := range made(p, 1, 20000, labels()) {
		typ, e := check.Type(p, params(), labels(), x)
		if e == api.ErrArg { // too large
			continue
		}
		want, expected := typeOf(p, g, x)
		if typ != want || e != expected {
			t.Fatalf("%v: %d %d, not %d %d", x, typ, e, want, expected)
		}
		if e == api.OK {
			typed++
		} else {
			untyped++
		}
	}
	if typed < 2000 || untyped < 2000 {
		t.Errorf("%d typed, %d not", typed, untyped)
	}
}

func TestP4_3AgainstTheRelation(t *testing.T) {
	p := program(t, "list", "l")
	g := typesOf(params(), nil)
	deep := map[int]int{}
	for _, x := range made(p, 2, 20000, nil) {
		p.Funs[1].Body = x
		f, path, found, e := check.Fault(p)
		if e == api.ErrProg { // too large
			continue
		}
		want, wrong := faultOf(p, g, x)
		wrong = wrong || !has(p, g, x, list)
		fun := 0
		if wrong {
			fun = 1
		}
		if f != fun || !slices.Equal(path, want) || found != wrong || e != api.OK {
			t.Fatalf("%v: %d %v %v %d, not %v %v", x, f, path, found, e, want, wrong)
		}
		if (check.Check(p) == api.OK) == wrong {
			t.Fatalf("%v: Check and Fault differ", x)
		}
		if wrong {
			deep[len(path)]++
		} else {
			deep[none]++
		}
	}
	if deep[none] < 500 || deep[0] < 500 || deep[1] < 500 || deep[2] < 500 || deep[3] < 200 {
		t.Errorf("depths of the faults: %v", deep)
	}
}

// A term has at most one type: as the body of a function with any other result type it is a fault.
func TestP4_4OneType(t *testing.T) {
	p := program(t, "list", "l")
	for _, x := range made(p, 3, 4000, nil) {
		p.Funs[1].Body = x
		accepted := 0
		for typ := range typeNames() {
			p.Funs[1].Result = typ
			if check.Check(p) == api.OK {
				accepted++
			}
		}
		if accepted > 1 && !callsItself(p) {
			t.Fatalf("%v: %d types", x, accepted)
		}
	}
}

// callsItself tells whether the result type of f itself makes a difference to its body.
func callsItself(p api.Prog) bool {
	calls, _ := term.Calls(p)
	return slices.Contains(calls[1], 1)
}

func TestP4_5OnlyFreeNamesCount(t *testing.T) {
	p := program(t, "list", "l")
	s := sample.Numbers(4)
	for _, x := range made(p, 5, 6000, labels()) {
		want, expected := check.Type(p, params(), labels(), x)
		freeVars, freeLabels := term.Free(x)
		fewer, others := onlyThose(params(), freeVars), onlyThose(labels(), freeLabels)
		if typ, e := check.Type(p, fewer, others, x); typ != want || e != expected {
			t.Fatalf("%v: %d %d without what is not free, not %d %d", x, typ, e, want, expected)
		}
		changed := api.Param{Name: sample.Pick(&s, []string{"x", "l", "s", "g", "k", "j", "b"}), Type: s.Below(pair + 1)}
		if !slices.Contains(freeVars, changed.Name) {
			fewer = append(fewer, changed)
		}
		if !slices.Contains(freeLabels, changed.Name) {
			others = append(others, changed)
		}
		if typ, e := check.Type(p, fewer, others, x); typ != want || e != expected {
			t.Fatalf("%v: %d %d with %v, not %d %d", x, typ, e, changed, want, expected)
		}
	}
}

func onlyThose(l []api.Param, names []string) []api.Param {
	var out []api.Param
	for _, a := range l {
		if slices.Contains(names, a.Name) {
			out = append(out, a)
		}
	}
	return out
}

// No call may panic (P1), whatever the fields of a term are.
func TestP1NoPanic(t *testing.T) {
	p := program(t, "list", "l")
	s := sample.Numbers(6)
	for _, x := range made(p, 7, 3000, labels()) {
		sample.Disturb(&s, &x)
		q := p
		q.Funs = slices.Clone(p.Funs)
		q.Funs[1].Body = x
		check.Check(q)
		check.Fault(q)
		check.Type(q, params(), labels(), x)
		check.Type(p, params(), labels(), x)
		check.Type(p, nil, nil, x)
	}
}
