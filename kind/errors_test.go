package kind_test

import (
	"math"
	"testing"

	"chiasmus/api"
	"chiasmus/core"
	"chiasmus/kind"
)

// scoped is a call of Type without its program.
type scoped struct {
	xs, as []int
	types  [2][]int
	n      api.Node
}

func (s scoped) wants(t *testing.T, name string, c api.Core, typ int, e api.Errno) {
	t.Helper()
	if got, f := kind.Type(c, s.xs, s.as, s.types, s.n); got != typ || f != e {
		t.Errorf("%s: %d %d, not %d %d", name, got, f, typ, e)
	}
}

func TestP7_2Scope(t *testing.T) {
	c := program(t, "done(1)")
	for name, s := range map[string]struct {
		scoped
		typ int
		e   api.Errno
	}{
		"a producer":               {scoped{[]int{7}, nil, [2][]int{{stream}, nil}, x(7)}, stream, api.OK},
		"a consumer":               {scoped{nil, []int{7}, [2][]int{nil, {mixed}}, a(7)}, mixed, api.OK},
		"the producer of a number": {scoped{[]int{3}, []int{3}, [2][]int{{list}, {stream}}, x(3)}, list, api.OK},
		"the consumer of a number": {scoped{[]int{3}, []int{3}, [2][]int{{list}, {stream}}, a(3)}, stream, api.OK},
		"the last of several":      {scoped{[]int{3, 4, 3}, nil, [2][]int{{list, 0, fn}, nil}, x(3)}, fn, api.OK},
		"not the first of several": {scoped{[]int{3, 4, 3}, nil, [2][]int{{0, list, fn}, nil}, done(x(3))}, 0, api.ErrKind},
		"the last consumer":        {scoped{nil, []int{3, 3, 4}, [2][]int{nil, {0, fn, list}}, a(3)}, fn, api.OK},
		"several of both":          {scoped{[]int{3, 3}, []int{3, 3}, [2][]int{{0, list}, {fn, stream}}, a(3)}, stream, api.OK},
		"one between":              {scoped{[]int{3, 4, 5}, nil, [2][]int{{0, list, fn}, nil}, x(4)}, list, api.OK},
		"the largest number":       {scoped{[]int{api.MaxVar}, nil, [2][]int{{list}, nil}, x(api.MaxVar)}, list, api.OK},
		"any unused numbers":       {scoped{[]int{-1, 0, math.MaxInt}, []int{math.MinInt}, [2][]int{{0, list, 0}, {0}}, x(0)}, list, api.OK},
		"nothing in scope":         {scoped{n: num(3)}, 0, api.OK},
		"empty slices":             {scoped{[]int{}, []int{}, [2][]int{{}, {}}, done(num(3))}, 0, api.OK},
		"not well-typed":           {scoped{[]int{3}, nil, [2][]int{{list}, nil}, done(x(3))}, 0, api.ErrKind},
		"not this producer":        {scoped{[]int{7}, nil, [2][]int{{stream}, nil}, x(8)}, 0, api.ErrArg},
		"not this consumer":        {scoped{nil, []int{7}, [2][]int{nil, {stream}}, a(8)}, 0, api.ErrArg},
		"only the consumer":        {scoped{nil, []int{7}, [2][]int{nil, {stream}}, x(7)}, 0, api.ErrArg},
		"only the producer":        {scoped{[]int{7}, nil, [2][]int{{stream}, nil}, a(7)}, 0, api.ErrArg},
		"a negative number":        {scoped{[]int{-1}, nil, [2][]int{{0}, nil}, x(-1)}, 0, api.ErrArg},
		"a number too large":       {scoped{[]int{api.MaxVar + 1}, nil, [2][]int{{0}, nil}, x(api.MaxVar + 1)}, 0, api.ErrArg},
		"a consumer too large":     {scoped{nil, []int{api.MaxVar + 1}, [2][]int{nil, {0}}, a(api.MaxVar + 1)}, 0, api.ErrArg},
		"bound elsewhere":          {scoped{n: cut(0, api.Node{Op: api.PMu, Args: []api.Node{done(num(1))}}, a(0))}, 0, api.ErrArg},
	} {
		s.wants(t, name, c, s.typ, s.e)
	}
}

// A variable that is no longer hidden has the type that was given for it, also if that was given last of several.
func TestP7_2ScopeIsRestored(t *testing.T) {
	c := program(t, "done(1)")
	n := read(t, "ifz(1, cut(list, x1, comu(x0 : list, cut(list, x0, a1))), cut(stream, x0, a0))")
	scoped{[]int{0, 1, 0}, []int{0, 1, 0}, [2][]int{{0, list, stream}, {0, list, stream}}, n}.wants(t, "restored", c, 0, api.OK)
	scoped{[]int{0, 1, 0}, []int{0, 1, 0}, [2][]int{{stream, list, 0}, {stream, list, stream}}, n}.wants(t, "the first type", c, 0, api.ErrKind)
}

// ErrArg comes before ErrKind, and is the same for valid nodes and others.
func TestP7_2LengthsAndTypes(t *testing.T) {
	c := program(t, "done(1)")
	for _, n := range []api.Node{num(1), done(x(1)), x(99), {Op: 99}} {
		for name, s := range map[string]scoped{
			"no types":             {numbers(), nil, [2][]int{}, n},
			"fewer types":          {numbers(), nil, [2][]int{{0, 1, 2, 3}, nil}, n},
			"more types":           {numbers(), nil, [2][]int{{0, 1, 2, 3, 4, 4}, nil}, n},
			"no consumer types":    {numbers(), []int{1}, [2][]int{numbers(), nil}, n},
			"fewer consumer types": {numbers(), numbers(), [2][]int{numbers(), {0}}, n},
			"more consumer types":  {numbers(), nil, [2][]int{numbers(), {0}}, n},
			"only the sum":         {numbers(), []int{1}, [2][]int{{0, 1, 2, 3}, {0, 1}}, n},
			"exchanged":            {numbers(), []int{1}, [2][]int{{1}, numbers()}, n},
			"no type":              {numbers(), nil, [2][]int{{0, 1, 2, 3, fn + 1}, nil}, n},
			"a negative type":      {numbers(), nil, [2][]int{{0, 1, -1, 3, 4}, nil}, n},
			"the least type":       {numbers(), nil, [2][]int{{0, 1, math.MinInt, 3, 4}, nil}, n},
			"no consumer's type":   {numbers(), []int{7}, [2][]int{numbers(), {fn + 1}}, n},
			"a negative consumer":  {numbers(), []int{7}, [2][]int{numbers(), {-1}}, n},
			"a hidden type":        {[]int{1, 1}, nil, [2][]int{{99, 1}, nil}, n},
			"a hidden consumer":    {[]int{1}, []int{1, 1}, [2][]int{{0}, {99, 1}}, n},
		} {
			s.wants(t, name, c, 0, api.ErrArg)
		}
	}
}

func TestP7_2Invalid(t *testing.T) {
	c := program(t, "done(1)")
	wrong := cut(list, num(1), a(1))
	for name, n := range map[string]api.Node{
		"no operator":           {Op: api.PThunk},
		"a negative operator":   {Op: -1},
		"the least operator":    {Op: math.MinInt},
		"a variable with Type":  {Op: api.PVar, Type: 1},
		"a command with N":      {Op: api.KDone, N: 1, Args: []api.Node{num(1)}},
		"a variable with Args":  {Op: api.PVar, Args: []api.Node{num(1)}},
		"no such type":          {Op: api.PMu, Type: fn + 1, Args: []api.Node{done(num(1))}},
		"no such xtor":          {Op: api.PXtor, Type: list, N: 2},
		"no xtor of integers":   {Op: api.PXtor},
		"no data type":          {Op: api.PXtor, Type: stream, Args: []api.Node{a(0)}},
		"no such function":      {Op: api.KCall, N: 2},
		"too few arguments":     {Op: api.KCall},
		"a consumer":            done(a(0)),
		"a producer":            cut(0, num(1), x(0)),
		"a command":             cut(0, num(1), done(x(0))),
		"no command":            {Op: api.PMu, Args: []api.Node{num(1)}},
		"no branches":           {Op: api.CMatch, Type: list},
		"a bound number":        {Op: api.PMu, N: api.MaxVar + 1, Args: []api.Node{done(num(1))}},
		"invalid and wrong":     emit(x(1), done(x(99))),
		"wrong, then invalid":   {Op: api.KIfz, Args: []api.Node{num(1), wrong, {Op: api.KDone}}},
		"invalid, then wrong":   {Op: api.KIfz, Args: []api.Node{num(1), {Op: api.KDone}, wrong}},
		"invalid in an unasked": {Op: api.KIfz, Args: []api.Node{x(1), {Op: api.KDone}, wrong}},
	} {
		scoped{numbers(), numbers(), types(), n}.wants(t, name, c, 0, api.ErrArg)
	}
	scoped{numbers(), numbers(), types(), wrong}.wants(t, "only wrong", c, 0, api.ErrKind)
}

// emits returns a command of the given depth, of which the last command is k.
func emits(depth int, k api.Node) api.Node {
	_, last := core.Size(k)
	for range depth - last {
		k = emit(num(1), k)
	}
	return k
}

// sized returns a command with n nodes, which is not deep.
func sized(n int, end api.Node) api.Node {
	nodes, _ := core.Size(end)
	switch {
	case n == nodes:
		return end
	case n%2 == 1:
		// An emit adds two nodes, and such a cut three: what is left is even.
		return cut(0, num(1), api.Node{Op: api.CMu, Args: []api.Node{sized(n-3, end)}})
	case n > api.MaxCoreDepth:
		half := n / 4 * 2
		return api.Node{Op: api.KIfz, Args: []api.Node{num(1), sized(half, end), sized(n-2-half, end)}}
	}
	return emit(num(1), sized(n-2, end))
}

func TestP7_2Limits(t *testing.T) {
	c := program(t, "done(1)")
	good, wrong := done(num(1)), done(x(1))
	huge, hugeProducer := good, num(1)
	for range 200 {
		huge = api.Node{Op: api.KIfz, Args: []api.Node{num(1), huge, huge}}
		hugeProducer = api.Node{Op: api.PXtor, Type: list, N: 1, Args: []api.Node{hugeProducer, hugeProducer}}
	}
	for name, s := range map[string]struct {
		n api.Node
		e api.Errno
	}{
		"as deep as permitted":   {emits(api.MaxCoreDepth, good), api.OK},
		"deep and wrong":         {emits(api.MaxCoreDepth, wrong), api.ErrKind},
		"too deep":               {emits(api.MaxCoreDepth+1, good), api.ErrArg},
		"too deep and wrong":     {emits(api.MaxCoreDepth+1, wrong), api.ErrArg},
		"far too deep":           {emits(1<<16, good), api.ErrArg},
		"as large as permitted":  {sized(api.MaxCore, good), api.OK},
		"large and wrong":        {sized(api.MaxCore, wrong), api.ErrKind},
		"too large":              {sized(api.MaxCore+1, good), api.ErrArg},
		"too large and wrong":    {sized(api.MaxCore+1, wrong), api.ErrArg},
		"shared too often":       {huge, api.ErrArg},
		"a producer, as often":   {hugeProducer, api.ErrArg},
		"arguments of a leaf":    {api.Node{Op: api.PInt, Args: []api.Node{huge}}, api.ErrArg},
		"arguments of none":      {api.Node{Op: -5, Args: []api.Node{huge}}, api.ErrArg},
		"branches of a producer": {api.Node{Op: api.PMatch, Type: stream, Branches: []api.Branch{{Body: huge}, {Body: huge}}}, api.ErrArg},
	} {
		scoped{numbers(), numbers(), types(), s.n}.wants(t, name, c, 0, s.e)
	}
	for _, n := range []int{2, 5, 100, 101, api.MaxCore, api.MaxCore + 1} {
		if nodes, depth := core.Size(sized(n, good)); nodes != n || depth > api.MaxCoreDepth {
			t.Errorf("%d nodes, not %d, with the depth %d", nodes, n, depth)
		}
	}
	// The size of the program makes no difference to what is permitted.
	c.Funs[1].Body = sized(api.MaxCore-2, good)
	scoped{n: sized(api.MaxCore, good)}.wants(t, "a large program", c, 0, api.OK)
	if e := kind.Check(c); e != api.OK {
		t.Errorf("a large program: %d", e)
	}
}

// There may be any number of variables in scope.
func TestP7_2ManyVariables(t *testing.T) {
	c := program(t, "done(1)")
	var l, of []int
	for i := range 1 << 18 {
		l, of = append(l, i), append(of, i%(fn+1))
	}
	for _, n := range []int{0, 1, 99999, 1<<18 - 1} {
		scoped{l, l, [2][]int{of, of}, cut(of[n], x(n), a(n))}.wants(t, "many", c, 0, api.OK)
	}
}

// The program of Type need not be well-typed itself.
func TestP7_2InProgramsThatAreNotWellTyped(t *testing.T) {
	c := program(t, "done(Nil())")
	n := read(t, "call f(x1, a2, 3, a0)")
	scoped{numbers(), numbers(), types(), n}.wants(t, "call", c, 0, api.OK)
}

// ErrCore comes before all other errors, and next to it the type is 0.
func TestR2ErrCoreComesFirst(t *testing.T) {
	for name, change := range map[string]func(c *api.Core){
		"nothing":          func(c *api.Core) { *c = api.Core{} },
		"no functions":     func(c *api.Core) { c.Funs = nil },
		"a doubled xtor":   func(c *api.Core) { c.Decls[1].Xtors[0].Name = "Nil" },
		"a doubled name":   func(c *api.Core) { c.Funs[1].Name = "main" },
		"a wrong main":     func(c *api.Core) { c.Funs[0].Params[0].Type = list },
		"an open body":     func(c *api.Core) { c.Funs[0].Body = done(x(99)) },
		"invalid, wrong":   func(c *api.Core) { c.Funs[0].Body = cut(list, num(1), a(7)) },
		"wrong, invalid":   func(c *api.Core) { c.Funs[0].Body, c.Funs[1].Name = cut(list, num(1), x(0)), "Main" },
		"a later body":     func(c *api.Core) { c.Funs[0].Body, c.Funs[1].Body = done(x(0)), api.Node{Op: -1} },
		"too deep":         func(c *api.Core) { c.Funs[0].Body = emits(api.MaxCoreDepth+1, done(num(1))) },
		"too large":        func(c *api.Core) { c.Funs[0].Body = sized(api.MaxCore+1, done(num(1))) },
		"no such operator": func(c *api.Core) { *place(*c) = api.Node{Op: 99} },
	} {
		c := program(t, "done(1)")
		change(&c)
		if e := kind.Check(c); e != api.ErrCore {
			t.Errorf("%s: %d", name, e)
		}
		for _, n := range []api.Node{num(1), done(x(1)), x(99), {Op: 99}} {
			scoped{numbers(), numbers(), types(), n}.wants(t, name, c, 0, api.ErrCore)
			scoped{numbers(), nil, [2][]int{{99}, nil}, n}.wants(t, name, c, 0, api.ErrCore)
		}
	}
}
