package focus_test

import (
	"reflect"
	"testing"

	"chiasmus/api"
	"chiasmus/core"
	"chiasmus/focus"
)

func fails(t *testing.T, name string, c api.Core, want api.Errno) {
	t.Helper()
	if is, e := focus.Focused(c); is || e != want {
		t.Errorf("%s: Focused: %v %d, not %d", name, is, e, want)
	}
	if out, e := focus.Focus(c); !reflect.DeepEqual(out, api.Core{}) || e != want {
		t.Errorf("%s: Focus: %v %d, not %d", name, out, e, want)
	}
}

func TestP9Errors(t *testing.T) {
	const values, serious = "fun main(x0 : int) = done(x0);\n", "fun main(x0 : int) = done(mu(a0 : int, done(x0)));\n"
	for name, c := range map[string]struct {
		s      string
		change func(c *api.Core)
		want   api.Errno
	}{
		"nothing":                      {values, func(c *api.Core) { *c = api.Core{} }, api.ErrCore},
		"declarations":                 {values, func(c *api.Core) { c.Decls[1].Name = "list" }, api.ErrCore},
		"no function":                  {values, func(c *api.Core) { c.Funs = nil }, api.ErrCore},
		"a name":                       {serious, func(c *api.Core) { c.Funs[0].Name = "emit" }, api.ErrCore},
		"an open body":                 {values, func(c *api.Core) { c.Funs[0].Vars[0] = 5 }, api.ErrCore},
		"a wrong main":                 {values, func(c *api.Core) { c.Funs[0].Params[0].Type = 1 }, api.ErrCore},
		"no operator":                  {serious, func(c *api.Core) { c.Funs[0].Body.Args[0].Args[0].Op = 99 }, api.ErrCore},
		"a negative operator":          {serious, func(c *api.Core) { c.Funs[0].Body.Op = -1 }, api.ErrCore},
		"a type that does not exist":   {serious, func(c *api.Core) { c.Funs[0].Body.Args[0].Type = 5 }, api.ErrCore},
		"a negative type":              {serious, func(c *api.Core) { c.Funs[0].Body.Args[0].Type = -1 }, api.ErrCore},
		"an argument":                  {values, func(c *api.Core) { c.Funs[0].Body.Args[0] = cons(num(1), num(2)) }, api.ErrKind},
		"a serious argument":           {serious, func(c *api.Core) { c.Funs[0].Body.Args[0].Type = 2 }, api.ErrKind},
		"in a serious argument":        {serious, func(c *api.Core) { c.Funs[0].Body.Args[0].Args[0].Args[0] = mu(1, done(num(1))) }, api.ErrKind},
		"a function that is not used":  {values + "fun f(x0 : list) = done(x0);\n", func(c *api.Core) {}, api.ErrKind},
		"a type, and an open function": {values + "fun f(x0 : list) = done(x0);\nfun g(x0 : int) = done(x0);\n", func(c *api.Core) { c.Funs[2].Vars[0] = 7 }, api.ErrCore},
	} {
		c0 := parse(t, c.s)
		c.change(&c0)
		fails(t, name, c0, c.want)
	}
}

// sized returns a command without serious arguments with n nodes, from 2 on, and no great depth.
func sized(n int) api.Node {
	switch {
	case n == 2:
		return done(num(1))
	case n == 3:
		return api.Node{Op: api.KCall, Args: []api.Node{num(1), num(1)}} // of main
	case n <= 5:
		return emit(num(1), sized(n-2))
	}
	half := (n - 2) / 2
	return api.Node{Op: api.KIfz, Args: []api.Node{num(1), sized(half), sized(n - 2 - half)}}
}

// steep returns a command without serious arguments with the given depth, from 2 on.
func steep(depth int) api.Node {
	k := done(num(1))
	for range depth - 2 {
		k = emit(num(1), k)
	}
	return k
}

// with returns a program, the functions of which have these bodies.
func with(bodies ...api.Node) api.Core {
	c := api.Core{Decls: []api.Decl{{Name: "list", Xtors: []api.Xtor{{Name: "Nil"}, {Name: "Cons", Args: []api.Arg{{}, {Type: 1}}}}}}}
	for i, k := range bodies {
		c.Funs = append(c.Funs, api.CoreFun{Name: "f" + string(rune('a'+i)), Params: make([]api.Arg, 2), Vars: []int{3, 4}, Body: k})
	}
	return c
}

// chain returns a command that passes a list of the given length, of which each element is serious.
func chain(length int) api.Node {
	l := api.Node{Op: api.PXtor, Type: 1}
	for range length {
		l = cons(mu(0, done(num(1))), l)
	}
	return cut(1, l, comu(1, done(num(2))))
}

func runs(k api.Node) api.Node {
	return mu(0, k)
}

// Naming an argument adds three nodes, and two levels to what is in the scope of the name. The first program of each pair is the largest that may be focused.
func TestP9_2ErrLarge(t *testing.T) {
	two := func(n int) api.Node {
		return api.Node{Op: api.KPrim, Args: []api.Node{runs(sized(50)), runs(sized(n - 56)), comu(0, done(num(1)))}}
	}
	deepRest := func(depth int) api.Node { return emit(runs(done(num(1))), steep(depth-3)) }
	for name, c := range map[string]struct{ fits, large api.Core }{
		"one argument":        {with(done(runs(sized(api.MaxCore - 5)))), with(done(runs(sized(api.MaxCore - 4))))},
		"two arguments":       {with(two(api.MaxCore - 6)), with(two(api.MaxCore - 5))},
		"all bodies together": {with(done(runs(sized(9000))), sized(9000), done(runs(sized(11990)))), with(done(runs(sized(9000))), sized(9000), done(runs(sized(11991))))},
		"around what is deep": {with(deepRest(api.MaxCoreDepth)), with(deepRest(api.MaxCoreDepth + 1))},
		"in a later function": {with(sized(9), deepRest(api.MaxCoreDepth)), with(sized(9), deepRest(api.MaxCoreDepth+1))},
		"many arguments":      {with(chain(1332)), with(chain(1333))},
	} {
		if out := focused(t, c.fits); !isFocused(t, out) || !isNearLimit(out) {
			t.Errorf("%s: there is room for more", name)
		}
		if core.Check(c.large) != api.OK || isFocused(t, c.large) {
			t.Fatal(name)
		}
		if out, e := focus.Focus(c.large); !reflect.DeepEqual(out, api.Core{}) || e != api.ErrLarge {
			t.Errorf("%s: %d", name, e)
		}
	}
}

// isNearLimit reports whether a program has the most nodes, or nearly the greatest depth.
func isNearLimit(c api.Core) bool {
	total, deepest := 0, 0
	for _, f := range c.Funs {
		nodes, depth := core.Size(f.Body)
		total, deepest = total+nodes, max(deepest, depth)
	}
	return total == api.MaxCore || deepest > api.MaxCoreDepth-3
}

// What is named is no deeper than before, and a program without serious arguments remains as it is, however large it is.
func TestP9_2NoLarger(t *testing.T) {
	for name, c := range map[string]api.Core{
		"the most nodes":     with(sized(api.MaxCore)),
		"the greatest depth": with(steep(api.MaxCoreDepth)),
		"deep and named":     with(done(runs(steep(api.MaxCoreDepth - 2)))),
	} {
		if out := focused(t, c); !isNearLimit(c) || !isNearLimit(out) || isFocused(t, c) != same(t, c, out) {
			t.Error(name)
		}
	}
}

// ErrKind comes before ErrLarge.
func TestR1ErrKindBeforeErrLarge(t *testing.T) {
	large := done(runs(sized(api.MaxCore - 100)))
	for range 15 {
		large = emit(runs(done(num(1))), large)
	}
	if _, e := focus.Focus(with(large)); e != api.ErrLarge {
		t.Fatal(e)
	}
	fails(t, "large", with(large, done(cons(num(1), num(2)))), api.ErrKind)
}
