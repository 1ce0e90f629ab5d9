package decl

import (
	"math"
	"reflect"
	"slices"
	"strconv"
	"strings"
	"testing"

	"chiasmus/api"
)

// invalid returns one list of declarations for each way in which they may be invalid.
func invalid() map[string][]api.Decl {
	u := xtor("Un")
	out := map[string][]api.Decl{
		"no name":                {data("", u)},
		"uppercase name":         {data("List", u)},
		"digit first":            {data("1list", u)},
		"bad byte":               {data("li_st", u)},
		"not ascii":              {data("é", u)},
		"not utf-8":              {data("a\xff", u)},
		"long name":              {data(strings.Repeat("a", api.MaxName+1), u)},
		"no xtors":               {data("list")},
		"no xtors of codata":     {codata("stream")},
		"no xtors in the second": {data("list", u), data("other")},
		"xtor without name":      {data("list", xtor(""))},
		"lowercase xtor":         {data("list", xtor("nil"))},
		"digit first in xtor":    {data("list", xtor("1nil"))},
		"two uppercase letters":  {data("list", xtor("NIl"))},
		"bad byte in xtor":       {data("list", xtor("Ni-l"))},
		"long xtor":              {data("list", xtor("A"+strings.Repeat("a", api.MaxName)))},
		"bad second xtor":        {data("list", u, xtor("nil"))},
		"doubled declaration":    {data("list", u), data("list", xtor("Other"))},
		"doubled across kinds":   {data("list", u), codata("list", xtor("Other"))},
		"doubled, first, last":   {data("a", u), data("b", xtor("Other")), data("a", xtor("More"))},
		"doubled xtor":           {data("list", u, u)},
		"doubled xtor elsewhere": {data("list", u), data("other", u)},
		"doubled with arguments": {data("list", u), codata("other", xtor("Un", con(0)))},
		"type above":             {data("list", xtor("Cons", pro(2)))},
		"type far above":         {data("list", xtor("Cons", pro(math.MaxInt)))},
		"negative type":          {data("list", xtor("Cons", pro(-1)))},
		"least type":             {data("list", xtor("Cons", pro(math.MinInt)))},
		"consumer above":         {codata("stream", xtor("Head", con(2)))},
		"negative consumer":      {codata("stream", xtor("Head", con(-1)))},
		"last argument":          {data("list", xtor("Cons", pro(0), pro(1), pro(2)))},
		"last xtor":              {data("list", u, xtor("Cons", pro(-1)))},
		"too many arguments":     {data("list", xtor("Cons", make([]api.Arg, api.MaxArgs+1)...))},
	}
	for _, w := range strings.Fields("data codata fun int ifz case cocase let emit label goto") {
		out["reserved "+w] = []api.Decl{data(w, u)}
	}
	xtors := data("list")
	for i := range api.MaxXtors + 1 {
		xtors.Xtors = append(xtors.Xtors, xtor("X"+strconv.Itoa(i)))
	}
	out["too many xtors"] = []api.Decl{xtors}
	out["too many declarations"] = append(full(), data("more", u))
	return out
}

func TestP1_1CheckAcceptsValid(t *testing.T) {
	for name, l := range map[string][]api.Decl{
		"nil":               nil,
		"empty":             {},
		"example":           example(),
		"limits":            full(),
		"no arguments":      {data("unit", xtor("Un"))},
		"empty arguments":   {data("unit", api.Xtor{Name: "Un", Args: []api.Arg{}})},
		"later type":        {data("a", xtor("A", pro(2))), data("b", xtor("B"))},
		"consumer in data":  {data("a", xtor("A", con(1), pro(0)))},
		"two consumers":     {codata("two", xtor("Both", con(0), con(0)))},
		"no consumer":       {codata("none", xtor("None"))},
		"same but for case": {data("list", xtor("List"))},
	} {
		if e := Check(l); e != api.OK {
			t.Errorf("%s: %d", name, e)
		}
	}
}

func TestP1_1CheckRejectsInvalid(t *testing.T) {
	for name, l := range invalid() {
		if e := Check(l); e != api.ErrDecl {
			t.Errorf("%s: %d", name, e)
		}
	}
}

// With an error, all other results are zero (R3), and ErrDecl comes before ErrArg (R1).
func TestP1_1AllReturnErrDeclFirst(t *testing.T) {
	for name, l := range invalid() {
		for _, n := range []int{0, 1, -1, len(l), 99, math.MinInt, math.MaxInt} {
			if b, e := Positive(l, n); b || e != api.ErrDecl {
				t.Errorf("%s: Positive of %d: %v %d", name, n, b, e)
			}
			if r, e := Result(l, n, 0); r != 0 || e != api.ErrDecl {
				t.Errorf("%s: Result of %d: %d %d", name, n, r, e)
			}
			if r, e := Result(l, 1, n); r != 0 || e != api.ErrDecl {
				t.Errorf("%s: Result of 1, %d: %d %d", name, n, r, e)
			}
		}
		for _, x := range []string{"Un", "Cons", "", "missing"} {
			if a, b, e := Find(l, x); a != 0 || b != 0 || e != api.ErrDecl {
				t.Errorf("%s: Find of %q: %d %d %d", name, x, a, b, e)
			}
		}
		if b, e := Source(l); b || e != api.ErrDecl {
			t.Errorf("%s: Source: %v %d", name, b, e)
		}
		if s, e := String(l); s != "" || e != api.ErrDecl {
			t.Errorf("%s: String: %q %d", name, s, e)
		}
		if s, e := Small(l); len(s) != 0 || e != api.ErrDecl {
			t.Errorf("%s: Small: %v %d", name, s, e)
		}
	}
}

func TestP1_2Source(t *testing.T) {
	for _, c := range []struct {
		name string
		l    []api.Decl
		want bool
	}{
		{"nothing", nil, true},
		{"example", example(), true},
		{"a consumer of a data type", []api.Decl{data("unit", xtor("Un")), codata("c", xtor("Get", con(1)))}, true},
		{"producers, then a consumer", []api.Decl{codata("fn", xtor("Ap", pro(0), pro(1), con(0)))}, true},
		{"consumer in data", []api.Decl{data("a", xtor("A", con(0)))}, false},
		{"consumer in the middle of data", []api.Decl{data("a", xtor("A", pro(0), con(0), pro(0)))}, false},
		{"consumer at the end of data", []api.Decl{data("a", xtor("A", pro(0), con(0)))}, false},
		{"consumer in the second constructor", []api.Decl{data("a", xtor("A"), xtor("B", con(0)))}, false},
		{"no arguments in codata", []api.Decl{codata("a", xtor("A"))}, false},
		{"only producers in codata", []api.Decl{codata("a", xtor("A", pro(0), pro(0)))}, false},
		{"two consumers", []api.Decl{codata("a", xtor("A", con(0), con(0)))}, false},
		{"consumer not last", []api.Decl{codata("a", xtor("A", con(0), pro(0)))}, false},
		{"consumers first and last", []api.Decl{codata("a", xtor("A", con(0), pro(0), con(0)))}, false},
		{"second destructor", []api.Decl{codata("a", xtor("A", con(0)), xtor("B"))}, false},
		{"last declaration", append(example(), codata("a", xtor("A"))), false},
		{"first declaration", []api.Decl{codata("a", xtor("A")), data("unit", xtor("Un"))}, false},
	} {
		if got, e := Source(c.l); got != c.want || e != api.OK {
			t.Errorf("%s: %v %d", c.name, got, e)
		}
	}
}

func TestP1_2Positive(t *testing.T) {
	for _, c := range []struct {
		l    []api.Decl
		t    int
		want bool
		e    api.Errno
	}{
		{nil, 0, true, api.OK},
		{nil, 1, false, api.ErrArg},
		{nil, -1, false, api.ErrArg},
		{example(), 0, true, api.OK},
		{example(), 1, true, api.OK},
		{example(), 2, false, api.OK},
		{example(), 3, true, api.OK},
		{example(), 4, false, api.ErrArg},
		{example(), -1, false, api.ErrArg},
		{example(), math.MaxInt, false, api.ErrArg},
		{example(), math.MinInt, false, api.ErrArg},
	} {
		if got, e := Positive(c.l, c.t); got != c.want || e != c.e {
			t.Errorf("Positive of type %d of %d: %v %d", c.t, len(c.l), got, e)
		}
	}
}

func TestP1_2Result(t *testing.T) {
	l := append(example(), codata("odd",
		xtor("None"),
		xtor("Pro", pro(0), pro(1)),
		xtor("Two", con(0), con(1)),
		xtor("First", con(0), pro(1)),
		xtor("Ends", con(0), pro(1), con(2)),
		xtor("Good", pro(1), pro(2), con(3)),
	))
	for _, c := range []struct {
		t, n, want int
		e          api.Errno
	}{
		{2, 0, 0, api.OK},
		{2, 1, 2, api.OK},
		{4, 5, 3, api.OK},
		{4, 0, 0, api.ErrArg},
		{4, 1, 0, api.ErrArg},
		{4, 2, 0, api.ErrArg},
		{4, 3, 0, api.ErrArg},
		{4, 4, 0, api.ErrArg},
		{4, 6, 0, api.ErrArg},
		{2, 2, 0, api.ErrArg},
		{2, -1, 0, api.ErrArg},
		{2, math.MaxInt, 0, api.ErrArg},
		{2, math.MinInt, 0, api.ErrArg},
		{0, 0, 0, api.ErrArg},
		{1, 0, 0, api.ErrArg},
		{1, 1, 0, api.ErrArg},
		{5, 0, 0, api.ErrArg},
		{-1, 0, 0, api.ErrArg},
		{math.MaxInt, 0, 0, api.ErrArg},
		{math.MinInt, 0, 0, api.ErrArg},
	} {
		if got, e := Result(l, c.t, c.n); got != c.want || e != c.e {
			t.Errorf("Result of xtor %d of type %d: %d %d", c.n, c.t, got, e)
		}
	}
	co := []api.Decl{data("dual", xtor("Con", pro(0), con(1)))}
	if got, e := Result(co, 1, 0); got != 0 || e != api.ErrArg {
		t.Errorf("a constructor that ends in a consumer: %d %d", got, e)
	}
	if got, e := Result(nil, 1, 0); got != 0 || e != api.ErrArg {
		t.Errorf("no declarations: %d %d", got, e)
	}
}

func TestP1_3String(t *testing.T) {
	for _, c := range []struct {
		l    []api.Decl
		want string
	}{
		{nil, ""},
		{[]api.Decl{data("unit", xtor("Un"))}, "data unit { Un() }\n"},
		{[]api.Decl{codata("none", xtor("No"))}, "codata none { No() }\n"},
		{example(), "data list { Nil(), Cons(int, list) }\ncodata stream { Head(~int), Tail(~stream) }\ndata knot { Tie(knot) }\n"},
		{[]api.Decl{codata("f", xtor("Ap", pro(2), con(0), pro(1), con(2))), data("d", xtor("D", con(1)))},
			"codata f { Ap(d, ~int, f, ~d) }\ndata d { D(~f) }\n"},
	} {
		if got, e := String(c.l); got != c.want || e != api.OK {
			t.Errorf("%q %d, not %q", got, e, c.want)
		}
	}
}

func TestP1_3Find(t *testing.T) {
	for _, c := range []struct {
		x    string
		t, n int
		e    api.Errno
	}{
		{"Nil", 1, 0, api.OK},
		{"Cons", 1, 1, api.OK},
		{"Head", 2, 0, api.OK},
		{"Tail", 2, 1, api.OK},
		{"Tie", 3, 0, api.OK},
		{"cons", 0, 0, api.ErrArg},
		{"Con", 0, 0, api.ErrArg},
		{"Conss", 0, 0, api.ErrArg},
		{" Cons", 0, 0, api.ErrArg},
		{"", 0, 0, api.ErrArg},
		{"list", 0, 0, api.ErrArg},
		{"\xff", 0, 0, api.ErrArg},
		{strings.Repeat("Cons", 10000), 0, 0, api.ErrArg},
	} {
		if a, b, e := Find(example(), c.x); a != c.t || b != c.n || e != c.e {
			t.Errorf("Find of %.20q: %d %d %d", c.x, a, b, e)
		}
	}
	if a, b, e := Find(nil, "Nil"); a != 0 || b != 0 || e != api.ErrArg {
		t.Errorf("Find in nothing: %d %d %d", a, b, e)
	}
}

func TestP1_4Small(t *testing.T) {
	for _, c := range []struct {
		name string
		l    []api.Decl
		want []bool
	}{
		{"nothing", nil, nil},
		{"example", example(), []bool{true, false, false}},
		{"only integers", []api.Decl{data("p", xtor("P", pro(0), pro(0)))}, []bool{true}},
		{"codata without arguments", []api.Decl{codata("c", xtor("C"))}, []bool{false}},
		{"a codata argument", []api.Decl{data("d", xtor("D", pro(2))), codata("c", xtor("C", con(0)))}, []bool{false, false}},
		{"a codata argument, and another constructor", []api.Decl{data("d", xtor("D", pro(2)), xtor("E")), codata("c", xtor("C", con(0)))}, []bool{true, false}},
		{"a consumer of integers", []api.Decl{data("d", xtor("D", con(0)))}, []bool{false}},
		{"a consumer of a small type", []api.Decl{data("u", xtor("Un")), data("d", xtor("D", pro(0), con(1)))}, []bool{true, false}},
		{"through a later type", []api.Decl{data("a", xtor("A", pro(2))), data("b", xtor("B"))}, []bool{true, true}},
		{"through an earlier type", []api.Decl{data("a", xtor("A")), data("b", xtor("B", pro(1)))}, []bool{true, true}},
		{"one argument, twice", []api.Decl{data("a", xtor("A", pro(2), pro(2))), data("b", xtor("B"))}, []bool{true, true}},
		{"one of two arguments", []api.Decl{data("a", xtor("A", pro(2), pro(3))), data("b", xtor("B")), data("c", xtor("C", pro(3)))}, []bool{false, true, false}},
		{"a circle", []api.Decl{data("a", xtor("A", pro(2))), data("b", xtor("B", pro(1)))}, []bool{false, false}},
		{"a circle with a way out", []api.Decl{data("a", xtor("A", pro(2))), data("b", xtor("B", pro(1)), xtor("Leaf", pro(0)))}, []bool{true, true}},
		{"a chain", []api.Decl{data("a", xtor("A", pro(2))), data("b", xtor("B", pro(3))), data("c", xtor("C", pro(4))), data("d", xtor("D"))}, []bool{true, true, true, true}},
		{"two small constructors", []api.Decl{data("a", xtor("A"), xtor("B", pro(0))), data("b", xtor("C", pro(1), pro(3))), data("c", xtor("D", pro(3)))}, []bool{true, false, false}},
	} {
		got, e := Small(c.l)
		if !slices.Equal(got, c.want) || e != api.OK {
			t.Errorf("%s: %v %d", c.name, got, e)
		}
	}
}

// rounds computes what Small promises in another way: it looks at all constructors again until nothing changes.
func rounds(l []api.Decl) []bool {
	out := make([]bool, len(l))
	for range l {
		for i, d := range l {
			for _, x := range d.Xtors {
				missing := slices.ContainsFunc(x.Args, func(a api.Arg) bool {
					return a.Co || a.Type > 0 && !out[a.Type-1]
				})
				out[i] = out[i] || !d.Codata && !missing
			}
		}
	}
	return out
}

func TestP1_4SmallOfMixed(t *testing.T) {
	s := numbers(1)
	for range 5000 {
		l := mixed(&s)
		got, e := Small(l)
		if want := rounds(l); !slices.Equal(got, want) || e != api.OK {
			t.Fatalf("%v: %v %d, not %v", l, got, e, want)
		}
	}
}

func TestP1_5FindOfEachXtor(t *testing.T) {
	for _, l := range [][]api.Decl{example(), full()} {
		for i, d := range l {
			for j, x := range d.Xtors {
				if a, b, e := Find(l, x.Name); a != i+1 || b != j || e != api.OK {
					t.Errorf("Find of %s: %d %d %d", x.Name, a, b, e)
				}
			}
		}
	}
}

func TestP1_5SmallRemains(t *testing.T) {
	s := numbers(2)
	for range 2000 {
		l := mixed(&s)
		before, _ := Small(l)
		for i := len(l); i < api.MaxDecls; i++ {
			x := xtor("Z"+strconv.Itoa(i), api.Arg{Type: s.below(len(l) + 2), Co: s.below(4) == 0})
			l = append(l, api.Decl{Name: "z" + strconv.Itoa(i), Codata: s.below(2) == 0, Xtors: []api.Xtor{x}})
			after, e := Small(l)
			if e != api.OK || len(after) != len(l) || !slices.Equal(before, after[:len(before)]) {
				t.Fatalf("%v: %v, then %v %d", l, before, after, e)
			}
		}
	}
}

// callAll calls every function of the package.
func callAll(l []api.Decl, a, b int, x string) {
	Check(l)
	Source(l)
	Positive(l, a)
	Result(l, a, b)
	String(l)
	Find(l, x)
	Small(l)
}

func TestR4ArgumentsAreNotModified(t *testing.T) {
	for name, l := range invalid() {
		kept := clone(l)
		callAll(l, 1, 0, "Un")
		if !reflect.DeepEqual(clone(l), kept) {
			t.Errorf("%s: modified", name)
		}
	}
	for _, l := range [][]api.Decl{example(), full()} {
		kept := clone(l)
		callAll(l, 2, 1, "Tail")
		if !reflect.DeepEqual(clone(l), kept) {
			t.Errorf("modified: %v", l)
		}
	}
}

func TestR4ElementsBeyondTheLength(t *testing.T) {
	bad := api.Decl{Name: "BAD"}
	all := append(example(), bad)
	all[0].Xtors = append(all[0].Xtors, api.Xtor{Name: "bad"})[:2]
	all[0].Xtors[1].Args = append(all[0].Xtors[1].Args, pro(-1))[:2]
	l := all[:3]
	callAll(l, 1, 1, "Cons")
	if e := Check(l); e != api.OK {
		t.Errorf("read: %d", e)
	}
	if !reflect.DeepEqual(all[3], bad) || all[0].Xtors[:3][2].Name != "bad" || all[0].Xtors[1].Args[:3][2].Type != -1 {
		t.Error("written")
	}
}

func TestR4ResultsAreNewMemory(t *testing.T) {
	l := example()
	first, _ := Small(l)
	for i := range first {
		first[i] = !first[i]
	}
	second, e := Small(l)
	if !slices.Equal(second, []bool{true, false, false}) || e != api.OK {
		t.Errorf("%v %d", second, e)
	}
	l[0].Xtors = l[0].Xtors[1:]
	if third, _ := Small(l); third[0] || !second[0] {
		t.Errorf("%v %v", second, third)
	}
}

// No call may panic (P1): the lists are cut and bent in all places, and every number is tried.
func TestP1NoPanic(t *testing.T) {
	odd := []int{math.MinInt, -2, -1, 0, 1, 2, 8, 9, math.MaxInt}
	for _, l := range append([][]api.Decl{nil, {{}}, {{Xtors: []api.Xtor{{}}}}, make([]api.Decl, 1000)}, example(), full()) {
		for _, a := range odd {
			bent := clone(l)
			for i := range bent {
				for j := range bent[i].Xtors {
					if args := bent[i].Xtors[j].Args; len(args) > 0 {
						args[len(args)-1].Type = a
					}
				}
			}
			for _, b := range odd {
				callAll(l, a, b, "")
				callAll(bent, a, b, "\xff\x00")
			}
		}
	}
}
