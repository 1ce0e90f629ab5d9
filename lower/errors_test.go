package lower_test

import (
	"math"
	"reflect"
	"strconv"
	"testing"

	"chiasmus/api"
	"chiasmus/lower"
)

func fails(t *testing.T, name string, p api.Prog, want api.Errno) {
	t.Helper()
	if c, e := lower.Lower(p); !reflect.DeepEqual(c, api.Core{}) || e != want {
		t.Errorf("%s: %v %d, not %d", name, c, e, want)
	}
}

// many returns names for functions, of which main is the first.
func many(n int) []string {
	out := []string{"main"}
	for i := 1; i < n; i++ {
		out = append(out, "f"+strconv.Itoa(i))
	}
	return out
}

const (
	five = "(a : int, b : int, c : int, d : int, e : int) : int = "
	six  = "(a : int, b : int, c : int, d : int, e : int, f : int) : int = "
)

func TestP8_1Errors(t *testing.T) {
	for name, c := range map[string]struct {
		p    api.Prog
		want api.Errno
	}{
		"no program":                    {api.Prog{}, api.ErrProg},
		"no operator":                   {api.Prog{Funs: []api.Fun{{Name: "main", Body: api.Term{Op: 99}}}}, api.ErrProg},
		"declarations":                  {api.Prog{Decls: []api.Decl{{Name: "int"}}, Funs: named(false, "main").Funs}, api.ErrProg},
		"a type":                        {parse(t, declText+"fun main() : int = Nil();"), api.ErrType},
		"a type in a function":          {parse(t, declText+"fun main() : int = 1; fun f() : list = 2;"), api.ErrType},
		"a type, and parameters":        {parse(t, declText+"fun main() : int = Nil(); fun f"+six+"a;"), api.ErrType},
		"too many functions":            {named(true, many(api.MaxFuns)...), api.ErrLarge},
		"too many parameters":           {parse(t, "fun main() : int = 1; fun f"+six+"a;"), api.ErrLarge},
		"too many in one that is used":  {parse(t, "fun main() : int = f(1, 2, 3, 4, 5, 6); fun f"+six+"a;"), api.ErrLarge},
		"too many of main":              {parse(t, "fun main"+six+"main(f, e, d, c, b, a);"), api.ErrLarge},
		"too many of main, from others": {parse(t, "fun main"+six+"1; fun f() : int = main(1, 2, 3, 4, 5, 6);"), api.ErrLarge},
	} {
		fails(t, name, c.p, c.want)
	}
	for name, p := range map[string]api.Prog{
		"the most functions":           named(false, many(api.MaxFuns)...),
		"the most functions that call": named(true, many(api.MaxFuns-1)...),
		"the most parameters":          parse(t, "fun main() : int = f(1, 2, 3, 4, 5); fun f"+five+"a;"),
		"the most parameters of main":  parse(t, "fun main"+six+"a;"),
		"the most parameters, called":  parse(t, "fun main"+five+"main(a, b, c, d, e);"),
		// The copy of main has a short name even if that of main is long.
		"the longest name":             named(true, "abcdefghij"),
		"the longest name, not called": named(false, "abcdefghij"),
	} {
		if _, e := lower.Lower(p); e != api.OK {
			t.Errorf("%s: %d", name, e)
		}
	}
	all := named(true, many(api.MaxFuns)...)
	all.Funs[0].Body = api.Term{Op: api.TInt}
	if _, e := lower.Lower(all); e != api.OK {
		t.Errorf("functions that do not call main: %d", e)
	}
}

func TestP8_2Errors(t *testing.T) {
	p := parse(t, declText+"fun main"+six+"main(a, b, c, d, e, f); fun g"+six+"1; fun h() : list = 2;")
	for _, c := range []struct {
		name string
		p    api.Prog
		f    int
		want api.Errno
	}{
		{"no program", api.Prog{}, 0, api.ErrProg},
		{"no program, no function", api.Prog{}, 7, api.ErrProg},
		{"a negative number", p, -1, api.ErrArg},
		{"the extra function", p, 3, api.ErrArg},
		{"the least number", p, math.MinInt, api.ErrArg},
		{"the largest number", p, math.MaxInt, api.ErrArg},
		{"too many parameters", p, 1, api.ErrLarge},
	} {
		if l, e := lower.Type(c.p, c.f); l != nil || e != c.want {
			t.Errorf("%s: %v %d, not %d", c.name, l, e, c.want)
		}
	}
	// The program need not have a translation itself.
	if l, e := lower.Type(p, 0); len(l) != api.MaxArgs || e != api.OK {
		t.Errorf("main: %v %d", l, e)
	}
	if l, e := lower.Type(p, 2); !reflect.DeepEqual(l, []api.Arg{{Type: list, Co: true}}) || e != api.OK {
		t.Errorf("a function that is not well-typed: %v %d", l, e)
	}
}
