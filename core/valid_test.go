package core_test

import (
	"math"
	"reflect"
	"slices"
	"strconv"
	"strings"
	"testing"

	"chiasmus/api"
	"chiasmus/core"
	"chiasmus/sample"
)

func checks(t *testing.T, name string, c api.Core, want api.Errno) {
	t.Helper()
	if e := core.Check(c); e != want {
		t.Errorf("%s: %d, not %d", name, e, want)
	}
}

// sized returns a command with n nodes, of which the depth is less than MaxCoreDepth.
func sized(n int) api.Node {
	switch {
	case n == 2:
		return done(num(1))
	case n > api.MaxCoreDepth:
		return ifz(num(1), sized((n-2)/2), sized(n-2-(n-2)/2))
	case n%2 == 1:
		return cut(0, num(1), comu(0, 0, sized(n-3)))
	}
	return emit(num(1), sized(n-2))
}

func TestSized(t *testing.T) {
	for _, n := range []int{2, 5, 99, 100, api.MaxCoreDepth, api.MaxCore - 99, api.MaxCore, api.MaxCore + 1} {
		if nodes, depth := core.Size(sized(n)); nodes != n || depth >= api.MaxCoreDepth {
			t.Errorf("%d, not %d, with the depth %d", nodes, n, depth)
		}
	}
}

// emits returns a command of the given depth.
func emits(depth int) api.Node {
	return chain(depth-1, done(num(1)), func(_ int, k api.Node) api.Node { return emit(num(1), k) })
}

func TestP6_1CheckAcceptsValid(t *testing.T) {
	for _, e := range examples() {
		checks(t, e.s, program(t, within(e).n), api.OK)
	}
	one := func(k api.Node) api.Core { return api.Core{Funs: []api.CoreFun{{Name: "main", Body: k}}} }
	for name, c := range map[string]api.Core{
		"without declarations":       one(done(num(1))),
		"the least integer":          one(done(num(math.MinInt))),
		"not named main":             {Funs: []api.CoreFun{{Name: "start", Body: done(num(1))}}},
		"not well-typed":             program(t, cut(list, num(1), comu(1, stream, done(x(1))))),
		"declarations of any kind":   program(t, done(num(1))),
		"inner variables hide":       program(t, cut(0, x(0), comu(0, 0, cut(0, x(0), comu(0, 0, done(x(0))))))),
		"both sorts of a number":     program(t, cut(0, mu(0, 0, cut(0, x(0), a(0))), comu(1, 0, done(x(0))))),
		"a parameter of each sort":   {Funs: []api.CoreFun{{Name: "main", Body: done(num(1))}, {Name: "f", Params: []api.Arg{{}, {Co: true}}, Vars: []int{4, 4}, Body: cut(0, x(4), a(4))}}},
		"main's parameters":          {Funs: []api.CoreFun{{Name: "main", Params: make([]api.Arg, 3), Vars: []int{2, api.MaxVar, 0}, Body: done(x(api.MaxVar))}}},
		"a recursive main":           one(call(0)),
		"the first example":          program(t, cut(0, num(3), comu(0, 0, done(x(0))))),
		"named like a declaration":   {Decls: []api.Decl{{Name: "main", Xtors: []api.Xtor{{Name: "Main"}}}}, Funs: []api.CoreFun{{Name: "main", Body: done(num(1))}}},
		"empty slices":               {Decls: []api.Decl{}, Funs: []api.CoreFun{{Name: "main", Params: []api.Arg{}, Vars: []int{}, Body: api.Node{Op: api.KDone, Args: []api.Node{{Op: api.PInt, Args: []api.Node{}, Branches: []api.Branch{}}}, Branches: []api.Branch{}}}}},
		"all functions":              {Funs: manyFuns(api.MaxFuns)},
		"as many parameters":         changed(t, func(c *api.Core) { takeParams(c, api.MaxArgs) }),
		"as deep as permitted":       one(emits(api.MaxCoreDepth)),
		"as large as permitted":      one(sized(api.MaxCore)),
		"as large in two functions":  {Funs: []api.CoreFun{{Name: "main", Body: sized(api.MaxCore - 99)}, {Name: "f", Body: sized(99)}}},
		"deep in several functions":  {Funs: []api.CoreFun{{Name: "main", Body: emits(api.MaxCoreDepth)}, {Name: "f", Body: emits(api.MaxCoreDepth)}}},
		"a call of a later function": {Funs: []api.CoreFun{{Name: "main", Body: call(1)}, {Name: "f", Body: call(0)}}},
	} {
		checks(t, name, c, api.OK)
	}
}

func manyFuns(n int) []api.CoreFun {
	var out []api.CoreFun
	for i := range n {
		out = append(out, api.CoreFun{Name: "f" + strconv.Itoa(i), Body: done(num(1))})
	}
	return out
}

// takeParams gives the second function n parameters.
func takeParams(c *api.Core, n int) {
	f := &c.Funs[1]
	f.Params, f.Vars, f.Body = make([]api.Arg, n), nil, done(x(n-1))
	for i := range n {
		f.Vars = append(f.Vars, i)
	}
}

// changed returns a valid program after a change.
func changed(t *testing.T, change func(c *api.Core)) api.Core {
	c := program(t, done(num(0)))
	change(&c)
	return c
}

// invalids returns a program for each way in which a program may be invalid apart from its nodes.
func invalids(t *testing.T) map[string]api.Core {
	one := func(k api.Node) api.Core { return api.Core{Funs: []api.CoreFun{{Name: "main", Body: k}}} }
	out := map[string]api.Core{
		"nothing":            {},
		"too many functions": {Funs: manyFuns(api.MaxFuns + 1)},
		"too deep":           one(emits(api.MaxCoreDepth + 1)),
		"far too deep":       one(emits(1 << 16)),
		"too deep elsewhere": {Funs: []api.CoreFun{{Name: "main", Body: done(num(1))}, {Name: "f", Body: emits(api.MaxCoreDepth + 1)}}},
		"too large":          one(sized(api.MaxCore + 1)),
		"too large together": {Funs: []api.CoreFun{{Name: "main", Body: sized(api.MaxCore - 99)}, {Name: "f", Body: sized(100)}}},
		"shared too often":   one(shared()),
	}
	for name, change := range map[string]func(c *api.Core){
		"no functions":           func(c *api.Core) { c.Funs = nil },
		"invalid declarations":   func(c *api.Core) { c.Decls[0].Name = "fun" },
		"a doubled xtor":         func(c *api.Core) { c.Decls[1].Xtors[0].Name = "Nil" },
		"no name":                func(c *api.Core) { c.Funs[0].Name = "" },
		"a reserved name":        func(c *api.Core) { c.Funs[1].Name = "let" },
		"an uppercase name":      func(c *api.Core) { c.Funs[1].Name = "Zero" },
		"a long name":            func(c *api.Core) { c.Funs[1].Name = strings.Repeat("a", api.MaxName+1) },
		"a doubled function":     func(c *api.Core) { c.Funs[1].Name = "main" },
		"no type of a parameter": func(c *api.Core) { c.Funs[1].Params[0].Type = 5 },
		"a negative parameter":   func(c *api.Core) { c.Funs[1].Params[0].Type = -1 },
		"fewer variables":        func(c *api.Core) { c.Funs[1].Vars = []int{0, 0} },
		"more variables":         func(c *api.Core) { c.Funs[1].Vars = []int{0, 0, 1, 2} },
		"a negative variable":    func(c *api.Core) { c.Funs[1].Vars[1] = -1 },
		"a variable too large":   func(c *api.Core) { c.Funs[1].Vars[1] = api.MaxVar + 1 },
		"a doubled variable":     func(c *api.Core) { c.Funs[1].Vars[0] = 1 },
		"doubled consumers":      func(c *api.Core) { c.Funs[1].Params[0].Co = true },
		"main with data":         func(c *api.Core) { c.Funs[0].Params[0].Type = list },
		"main with codata":       func(c *api.Core) { c.Funs[0].Params[0].Type = stream },
		"main with a consumer":   func(c *api.Core) { c.Funs[0].Params[0].Co = true },
		"another's parameter":    func(c *api.Core) { c.Funs[0].Body = done(x(1)) },
		"another's consumer":     func(c *api.Core) { c.Funs[0].Body = cut(0, x(0), a(0)) },
		"a bad body elsewhere":   func(c *api.Core) { c.Funs[1].Body = done(x(2)) },
		"a body that is none":    func(c *api.Core) { c.Funs[0].Body = x(0) },
		"a consumer as a body":   func(c *api.Core) { c.Funs[1].Body = a(0) },
		"a zero body":            func(c *api.Core) { c.Funs[0].Body = api.Node{} },
		"too many parameters":    func(c *api.Core) { takeParams(c, api.MaxArgs+1) },
	} {
		out[name] = changed(t, change)
	}
	return out
}

// shared returns a command that is far too large to be looked at: the same nodes occur in it again and again.
func shared() api.Node {
	k := done(num(1))
	for range 200 {
		k = ifz(num(1), k, k)
	}
	return k
}

func TestP6_1CheckRejectsInvalid(t *testing.T) {
	for name, c := range invalids(t) {
		checks(t, name, c, api.ErrCore)
	}
}

// With an error, all other results are zero (R3).
func TestP6_1AllReturnErrCore(t *testing.T) {
	good := program(t, done(num(0)))
	for name, c := range invalids(t) {
		for _, l := range [][2]api.Core{{c, good}, {good, c}, {c, c}} {
			if b, e := core.Equal(l[0], l[1]); b || e != api.ErrCore {
				t.Errorf("%s: Equal: %v %d", name, b, e)
			}
		}
		if s, e := core.String(c); s != "" || e != api.ErrCore {
			t.Errorf("%s: String: %q %d", name, s, e)
		}
	}
}

// Each field that an operator does not use must be empty, and nothing may be missing or too much.
func TestP6_1Fields(t *testing.T) {
	usesN := []int{api.PVar, api.PInt, api.PXtor, api.PMu, api.CVar, api.CXtor, api.CMu, api.KPrim, api.KCall}
	usesType := []int{api.PXtor, api.PMu, api.PMatch, api.CXtor, api.CMu, api.CMatch, api.KCut}
	seen := map[int]bool{}
	for _, e := range examples() {
		c := program(t, within(e).n)
		seen[e.n.Op] = true
		change := func(name string, f func(n *api.Node)) {
			n := e.n
			f(&n)
			c.Funs[0].Body = within(example{n: n}).n
			checks(t, e.s+": "+name, c, api.ErrCore)
		}
		for _, m := range []api.Node{num(1), a(0), done(num(1)), comu(0, 0, done(num(1)))} {
			change("one more", func(n *api.Node) { n.Args = append(n.Args[:len(n.Args):len(n.Args)], m) })
		}
		change("a branch", func(n *api.Node) {
			n.Branches = append(n.Branches[:len(n.Branches):len(n.Branches)], branch(done(num(1))))
		})
		if len(e.n.Args) > 0 {
			change("one less", func(n *api.Node) { n.Args = n.Args[1:] })
		}
		if len(e.n.Branches) > 0 {
			change("a branch less", func(n *api.Node) { n.Branches = n.Branches[1:] })
		}
		if !slices.Contains(usesN, e.n.Op) {
			change("N", func(n *api.Node) { n.N = 1 })
		}
		if !slices.Contains(usesType, e.n.Op) {
			change("Type", func(n *api.Node) { n.Type = list })
		} else {
			change("no Type", func(n *api.Node) { n.Type = 5 })
			change("a negative Type", func(n *api.Node) { n.Type = -1 })
		}
		if e.n.Op != api.PInt && slices.Contains(usesN, e.n.Op) {
			change("a negative N", func(n *api.Node) { n.N = -1 })
			change("N too large", func(n *api.Node) { n.N = api.MaxVar + 1 })
		}
		change("another Op", func(n *api.Node) { n.Op = -1 })
		change("a later Op", func(n *api.Node) { n.Op = api.PThunk })
	}
	if len(seen) != api.KDone {
		t.Errorf("%d operators besides CVar", len(seen))
	}
}

// Each place requires a node of one sort.
func TestP6_1Sorts(t *testing.T) {
	sorts := []api.Node{x(0), comu(0, 0, done(num(1))), done(num(1))}
	for _, e := range examples() {
		for i, old := range e.n.Args {
			for _, m := range sorts {
				n := e.n
				n.Args = append([]api.Node(nil), e.n.Args...)
				n.Args[i] = m
				want := api.ErrCore
				if sortOf(m) == sortOf(old) {
					want = api.OK
				}
				checks(t, e.s, program(t, within(example{n: n}).n), want)
			}
		}
		for i := range e.n.Branches {
			for _, m := range sorts[:2] {
				n := e.n
				n.Branches = append([]api.Branch(nil), e.n.Branches...)
				n.Branches[i].Body = m
				checks(t, e.s, program(t, within(example{n: n}).n), api.ErrCore)
			}
		}
	}
}

func sortOf(n api.Node) int {
	switch {
	case n.Op <= api.PMatch:
		return 0
	case n.Op <= api.CMatch:
		return 1
	}
	return 2
}

func TestP6_1Nodes(t *testing.T) {
	end := done(num(1))
	good := []api.Branch{branch(end), branch(end, 1, 2)}
	for name, e := range map[string]api.Node{
		"no variable":               x(1),
		"no consumer variable":      a(0),
		"a variable of a comu":      con(list, 1, comu(7, 0, done(x(7))), x(7)),
		"a variable of a mu":        mu(1, 0, done(x(1))),
		"a constructor of none":     con(list, 2),
		"integers have none":        con(0, 0),
		"a codata constructor":      con(stream, 0, comu(1, 0, end)),
		"an object of a data type":  object(list, good...),
		"an object of integers":     object(0),
		"a data destructor":         dtor(list, 0),
		"no destructor":             dtor(stream, 2, comu(1, 0, end)),
		"a match of codata":         match(stream, branch(end, -1), branch(end, -1)),
		"a match of integers":       match(0),
		"no operation":              prim(7, x(0), x(0), comu(1, 0, end)),
		"no function":               call(2),
		"no type":                   cut(5, x(0), comu(1, 0, end)),
		"a match of no type":        match(5),
		"branches of another type":  match(mixed, good...),
		"branches in another order": match(list, good[1], good[0]),
		"a missing variable":        match(list, branch(end), branch(end, 1)),
		"one variable too much":     match(list, branch(end), branch(end, 1, 2, 3)),
		"a consumer variable":       match(list, branch(end), branch(end, 1, -2)),
		"a producer variable":       object(stream, branch(end, 1), branch(end, -1)),
		"a doubled variable":        match(list, branch(end), branch(end, 2, 2)),
		"a doubled consumer":        object(fn, branch(end, 1, 2, -1), branch(end, -3, -3)),
		"a variable too large":      match(list, branch(end), branch(end, 1, api.MaxVar+2)),
		"a negative variable":       match(list, branch(end), api.Branch{Vars: []int{0, -1}, Co: []bool{false, false}, Body: end}),
		"a missing Co":              match(list, branch(end), api.Branch{Vars: []int{0, 1}, Co: []bool{false}, Body: end}),
		"no Co":                     match(list, branch(end), api.Branch{Vars: []int{0, 1}, Body: end}),
		"one Co too much":           match(list, branch(end), api.Branch{Vars: []int{0, 1}, Co: []bool{false, false, false}, Body: end}),
		"of another branch":         match(list, branch(done(x(4))), branch(end, 5, 6)),
		"bound in its Args only":    with(comu(4, 0, end), branch(done(x(4)))),
	} {
		checks(t, name, program(t, within(example{n: e}).n), api.ErrCore)
	}
}

// What is valid in the middle of a program remains so, and what is not, too.
func TestP6_1Disturbed(t *testing.T) {
	var s sample.Numbers = 10
	count := map[api.Errno]int{}
	for _, c := range made(t, 11, 9, 5000) {
		sample.DisturbNode(&s, &c.Funs[s.Below(2)].Body)
		e := core.Check(c)
		count[e]++
		out, f := core.String(c)
		switch {
		case e == api.ErrCore && (f != e || out != ""):
			t.Fatalf("%q %d, not %d", out, f, e)
		case e == api.OK && f == api.OK:
			// Only a valid program is equal to what its string says.
			if d, f := core.Parse(out); !equalOrEmpty(d, c) || f != api.OK {
				t.Fatalf("%d: %s", f, out)
			}
		}
		if b, f := core.Equal(c, c); b != (e == api.OK) || f != e {
			t.Fatalf("%v %d, not %d", b, f, e)
		}
	}
	if len(count) != 2 || count[api.OK] < 500 || count[api.ErrCore] < 500 {
		t.Error(count)
	}
}

// equalOrEmpty compares all fields of programs, where nil is an empty slice.
func equalOrEmpty(c, d api.Core) bool {
	for i := range c.Funs {
		tidy(&c.Funs[i].Body)
	}
	for i := range d.Funs {
		tidy(&d.Funs[i].Body)
	}
	return reflect.DeepEqual(c, d)
}

func tidy(n *api.Node) {
	if len(n.Args) == 0 {
		n.Args = nil
	}
	if len(n.Branches) == 0 {
		n.Branches = nil
	}
	for i := range n.Args {
		tidy(&n.Args[i])
	}
	for i := range n.Branches {
		b := &n.Branches[i]
		if len(b.Vars) == 0 {
			b.Vars, b.Co = nil, nil
		}
		tidy(&b.Body)
	}
}

// No call changes its arguments (R4), and the same call has the same result each time (R7).
func TestR4R7(t *testing.T) {
	again := made(t, 12, 9, 100)
	for i, c := range made(t, 12, 9, 100) {
		first, second := results(c), results(again[i])
		if !reflect.DeepEqual(first, second) || !reflect.DeepEqual(results(c), first) {
			t.Fatalf("%v, not %v", second, first)
		}
		if !reflect.DeepEqual(c, again[i]) {
			t.Fatal("an argument was changed")
		}
	}
}

// results returns the results of all functions.
func results(c api.Core) []any {
	n := c.Funs[1].Body
	xs, as := core.Free(n)
	nodes, depth := core.Size(n)
	m, e := core.Subst(n, []int{0, 1}, []api.Node{x(1), c.Funs[0].Body}, []int{0}, []api.Node{a(2)})
	b, f := core.Equal(c, c)
	s, g := core.String(c)
	d, h := core.Parse(s)
	return []any{core.Check(c), xs, as, nodes, depth, m, e, core.Same(m, n), b, f, s, g, d, h}
}
