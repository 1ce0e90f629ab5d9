package core_test

import (
	"reflect"
	"strings"
	"testing"

	"chiasmus/api"
	"chiasmus/core"
	"chiasmus/sample"
)

func refuses(t *testing.T, s string, want api.Errno) {
	t.Helper()
	if c, e := core.Parse(s); e != want || e != api.OK && !reflect.DeepEqual(c, api.Core{}) {
		t.Errorf("%d, not %d: %.2000q", e, want, s)
	}
}

// The strings of all operators, alone and within each other.
func TestP6_5Examples(t *testing.T) {
	for _, e := range examples() {
		k := within(e)
		c, want := program(t, k.n), mains(k.s)
		if s, e := core.String(c); s != want || e != api.OK {
			t.Errorf("%d %q, not %q", e, s, want)
		}
		if d, e := core.Parse(want); !equalOrEmpty(d, c) || e != api.OK {
			t.Errorf("%d %v, not %v", e, d, c)
		}
	}
}

// Programs of all kinds of heads.
func TestP6_5Heads(t *testing.T) {
	for _, s := range []string{
		"fun main() = done(1);\n",
		"fun start(x7 : int, x0 : int) = done(x7);\n",
		"fun main() = call f(1, comu(x0 : int, done(x0)));\nfun f(x3 : int, a3 : int) = cut(int, x3, a3);\n",
		"fun main() = done(1);\nfun x0() = call a0();\nfun a0() = call mu();\nfun mu() = call x0();\n",
		"data unit { Un() }\nfun main() = cut(unit, Un(), match unit { Un() => done(2) });\n",
		"codata unit { Un() }\nfun main() = cut(unit, match unit { Un() => done(2) }, Un());\n",
		"codata a { A() }\ndata b { B(~a, a), C(~b, int) }\nfun main() = cut(b, B(A(), match a { A() => done(1) }), match b { B(a1048576, x1) => cut(a, x1, a1048576), C(a0, x0) => cut(b, C(a0, 1), a0) });\n",
		"data x { X() }\nfun main(x0 : int) = cut(x, mu(a0 : x, cut(x, X(), a0)), comu(x1 : x, done(x0)));\n",
	} {
		c, e := core.Parse(s)
		if out, f := core.String(c); e != api.OK || f != api.OK || out != s {
			t.Errorf("%d %d %q, not %q", e, f, out, s)
		}
	}
}

// Parse knows the names of later declarations and functions, and tells data from codata by them.
func TestP6_5Resolved(t *testing.T) {
	c := parsed(t, "data b { B(~a, b) }\ncodata a { A(), C(b) }\nfun main() = call f(A(), -1);\nfun f(a0 : a, x2 : int) = cut(b, mu(a1 : b, cut(a, match a { A() => done(1), C(x5) => cut(b, x5, a1) }, a0)), match b { B(a9, x9) => cut(a, 3, C(x9)) });\n")
	want := api.Core{
		Decls: []api.Decl{
			{Name: "b", Xtors: []api.Xtor{{Name: "B", Args: []api.Arg{{Type: 2, Co: true}, {Type: 1}}}}},
			{Name: "a", Codata: true, Xtors: []api.Xtor{{Name: "A"}, {Name: "C", Args: []api.Arg{{Type: 1}}}}},
		},
		Funs: []api.CoreFun{
			{Name: "main", Body: call(1, dtor(2, 0), num(-1))},
			{Name: "f", Params: []api.Arg{{Type: 2, Co: true}, {}}, Vars: []int{0, 2}, Body: cut(1,
				mu(1, 1, cut(2, object(2, branch(done(num(1))), branch(cut(1, x(5), a(1)), 6)), a(0))),
				match(1, branch(cut(2, num(3), dtor(2, 1, x(9))), -10, 10)))},
		},
	}
	if !equalOrEmpty(c, want) {
		t.Errorf("%v, not %v", c, want)
	}
}

// bodies returns strings of commands that are malformed.
func bodies() []string {
	return []string{
		"", "5", "x0", "a0", "mu(a0 : int, done(1))", "Nil()", "match list { Nil() => done(1), Cons(x1, x2) => done(1) }",
		"done( 1)", "done(1 )", " done(1)", "done(1) ", "done (1)", "done()", "done(1, 2)", "done(1", "done1", "done", "Done(1)", "done(\n1)", "done(1),",
		"done(01)", "done(-0)", "done(--1)", "done(-)", "done(+1)", "done(- 1)", "done(1x)", "done(1.0)", "done(-x0)", "done(00)", "done(-01)",
		"done(x)", "done(x01)", "done(x-1)", "done(X0)", "done(y0)", "done(x0a)", "done(x 0)", "done(b)", "done(x0x0)", "done(é)", "done(\xff)",
		"done(nil())", "done(Nil)", "done(Nil ())", "done(Nil( ))", "done(Cons(1,2))", "done(Cons(1 , 2))", "done(Cons(1, ))", "done(Cons(, 1))", "done(Cons(1, 2,))", "done(CONS(1, 2))", "done(Nil()())",
		"cut(int, 1, 2, 3)", "cut(int, 1)", "cut(1, 2)", "cut(int,1, 2)", "cut(Int, 1, 2)", "cut(int, 1, )", "cut(, 1, 2)", "cut(int : 1, 2)", "cut(~int, 1, 2)", "cut(i_t, 1, 2)",
		"done(mu(x0 : int, done(1)))", "done(comu(a0 : int, done(1)))", "done(mu(a0 : int, 1))", "done(mu(a0: int, done(1)))", "done(mu(a0 :int, done(1)))", "done(mu(a0 : int))", "done(mu(a0, done(1)))",
		"done(mu(a : int, done(1)))", "done(mu(a00 : int, done(1)))", "done(mu(a0 : int, done(1), done(1)))", "done(mu (a0 : int, done(1)))", "done(mu(a-1 : int, done(1)))", "done(comu(x0 : int, x0))", "done(mu)", "done(muu(a0 : int, done(1)))",
		"done(match list {})", "done(match list { })", "done(match list {   })", "done(match list)", "done(match list { Nil() => done(1) , Cons(x1, x2) => done(1) })", "done(match list {Nil() => done(1)})", "done(match list { Nil() => done(1)})",
		"done(match list { Nil => done(1) })", "done(match list { Nil() = done(1) })", "done(match list { Nil()=>done(1) })", "done(match list { Nil() => 1 })", "done(match list { nil() => done(1) })", "done(match list { Cons(x1,x2) => done(1) })",
		"done(match list { Cons(x1, ) => done(1) })", "done(match list { Cons(1) => done(1) })", "done(match list { Cons(y1) => done(1) })", "done(match list { Cons(x01) => done(1) })", "done(match list { Nil() => done(1), })", "done(match { Nil() => done(1) })", "done(match  { Nil() => done(1) })",
		"prim(+, 1, 2)", "prim(+, 1, 2, a0, a1)", "prim(++, 1, 2, a0)", "prim(=, 1, 2, a0)", "prim(===, 1, 2, a0)", "prim(>, 1, 2, a0)", "prim(, 1, 2, a0)", "prim(+,1, 2, a0)", "prim(add, 1, 2, a0)", "prim(+ , 1, 2, a0)", "prim(<=, 1, 2, a0)", "prim(1, +, 2, a0)",
		"ifz(1, done(1))", "ifz(1, done(1), done(1), done(1))", "ifz(1, 2, done(1))", "ifz(1, done(1), 2)", "ifz()", "ifz(done(1), done(1))",
		"emit(1)", "emit(1, 2)", "emit(1, done(1), done(1))", "emit(1,done(1))", "emit(1, x0)",
		"call", "call f", "callf()", "call  f()", "call F()", "call f (1)", "call f(1", "call f(1,)", "call f(1,2)", "call 1()", "call (1)", "call f()()", "call ()",
		"let(1)", "goto(1)", "fun main()", "data", "(1 + 2)", "done(1);", "done(1);\n", "cut(int, 1, done(1)", "cut(int, 1, done(1)))",
	}
}

func TestP6_5Malformed(t *testing.T) {
	for _, s := range bodies() {
		refuses(t, mains(s), api.ErrText)
		refuses(t, mains("ifz(1, done(1), "+s+")"), api.ErrText)
		refuses(t, mains("emit(1, "+s+")"), api.ErrText)
		// It is ErrText even if something else is not valid.
		refuses(t, "data data { Nil(), Nil(~nowhere) }\nfun fun(a99999999999999999999 : nowhere) = "+s+";\n", api.ErrText)
	}
}

func TestP6_5MalformedHeads(t *testing.T) {
	const f = "fun main() = done(1);\n"
	for _, s := range []string{
		" ", "\n", "fun", "fun ", "fun main", "fun main()", "fun main() = ", "fun main() = done(1)", "fun main() = done(1);", "fun main() = done(1)\n", "fun main() = done(1); \n", "fun main() = done(1);\r\n", "fun main() = done(1);\n\n", "fun main() = done(1);\n ", "\n" + f, " " + f,
		"fun  main() = done(1);\n", "fun main () = done(1);\n", "fun main()= done(1);\n", "fun main() =done(1);\n", "fun main()  = done(1);\n", "fun main() : int = done(1);\n", "fun Main() = done(1);\n", "fun 1() = done(1);\n", "fun () = done(1);\n", "fun mAin() = done(1);\n", "fun ma_in() = done(1);\n", "Fun main() = done(1);\n",
		"fun main( ) = done(1);\n", "fun main(x0) = done(1);\n", "fun main(x0: int) = done(1);\n", "fun main(x0 :int) = done(1);\n", "fun main(int) = done(1);\n", "fun main(n : int) = done(1);\n", "fun main(x : int) = done(1);\n", "fun main(x00 : int) = done(1);\n", "fun main(x0 : int,) = done(1);\n", "fun main(x0 : int,x1 : int) = done(1);\n", "fun main(x0 : int, ) = done(1);\n", "fun main(x0 : Int) = done(1);\n", "fun main(x0 : ~int) = done(1);\n", "fun main(x-1 : int) = done(1);\n",
		f + "data a { A() }\n", "data a { A() }", "data a { A() } \n", "data a { A() }\n\n" + f, "data a { A() } " + f, "data a {A()}\n", "data a { A()}\n", "data a {A() }\n", "data a { }\n", "data a {}\n", "data a {   }\n", "data a { A }\n", "data a { a() }\n", "data A { A() }\n", "data a{ A() }\n", "data  a { A() }\n", "dataa { A() }\n", "data { A() }\n", "data 1 { A() }\n",
		"data a { A(), }\n", "data a { A(),B() }\n", "data a { A() B() }\n", "data a { , A() }\n", "data a { A( ) }\n", "data a { A(int ) }\n", "data a { A(int,int) }\n", "data a { A(int, ) }\n", "data a { A(~ int) }\n", "data a { A(~~int) }\n", "data a { A(~) }\n", "data a { A(1) }\n", "data a { A(Int) }\n", "data a { AB() }\n", "data a { A(b_) }\n", "Data a { A() }\n", "cocodata a { A() }\n", "codata codata a { A() }\n", "codata a { A(int~) }\n",
	} {
		refuses(t, s, api.ErrText)
	}
}

// What has the form of a core program, but is none, is ErrCore.
func TestP6_5NotValid(t *testing.T) {
	const huge = "99999999999999999999999999"
	for _, s := range []string{
		"done(x1)", "done(a0)", "done(done(1))", "done(Zero())", "done(Cons(1))", "done(Cons(1, 2, 3))", "done(Nil(1))", "done(Head(a0))", "done(Verylongname())", "done(match list {  })", "done(match int {  })", "done(match nowhere {  })",
		"done(x1048577)", "done(x" + huge + ")", "done(a" + huge + ")", "done(" + huge + ")", "done(-" + huge + ")", "done(9223372036854775808)", "done(-9223372036854775809)",
		"cut(int, done(1), a0)", "cut(int, 1, 1)", "cut(int, comu(x1 : int, done(1)), 1)", "cut(nowhere, 1, comu(x1 : int, done(1)))", "cut(data, 1, comu(x1 : int, done(1)))", "cut(int, 1, cut(int, 1, 2))",
		"cut(int, mu(a1 : nowhere, done(1)), comu(x1 : int, done(1)))", "cut(int, mu(a1048577 : int, done(1)), comu(x1 : int, done(1)))", "cut(int, mu(a" + huge + " : int, done(1)), comu(x1 : int, done(1)))", "cut(int, 1, comu(x1 : int, done(x2)))",
		"cut(list, 1, match list { Nil() => done(1) })", "cut(list, 1, match list { Cons(x1, x2) => done(1), Nil() => done(1) })", "cut(list, 1, match list { Nil() => done(1), Cons(x1) => done(1) })", "cut(list, 1, match list { Nil() => done(1), Cons(x1, a2) => done(1) })",
		"cut(list, 1, match list { Nil() => done(1), Cons(x1, x1) => done(1) })", "cut(list, 1, match list { Nil() => done(1), Cons(x1, x2) => done(1), Nil() => done(1) })", "cut(list, 1, match list { Nil() => done(1), Head(a1) => done(1) })", "cut(list, 1, match list { Nil() => done(1), Nowhere() => done(1) })",
		"cut(list, 1, match list { Nil() => done(1), Cons(x1, x1048577) => done(1) })", "cut(list, 1, match list { Nil() => done(1), Cons(x1, x" + huge + ") => done(1) })", "cut(list, 1, match mixed { Nil() => done(1), Cons(x1, x2) => done(1) })", "cut(list, match list { Nil() => done(1), Cons(x1, x2) => done(1) }, comu(x1 : int, done(1)))",
		"cut(stream, 1, match stream { Head(a1) => done(1), Tail(a1) => done(1) })", "cut(list, 1, Nil())", "cut(stream, Head(comu(x1 : int, done(1))), comu(x1 : int, done(1)))",
		"prim(+, 1, 2, 3)", "prim(+, a0, 2, comu(x1 : int, done(1)))", "ifz(done(1), done(1), done(1))", "ifz(comu(x1 : int, done(1)), done(1), done(1))", "emit(Head(1), done(1))", "emit(match fn {  }, done(1))",
		"call g()", "call main()", "call main(1, 2)", "call f(Nil(), 1, 1)", "call int()", "call verylongname()",
	} {
		refuses(t, mains(s), api.ErrCore)
	}
}

func TestP6_5NotValidHeads(t *testing.T) {
	const f = "fun main() = done(1);\n"
	for _, s := range []string{
		"", "data a { A() }\n", "data a {  }\n" + f, "codata a {  }\n", "data data { A() }\n" + f, "data int { A() }\n" + f, "data a { A() }\ndata a { B() }\n" + f, "data a { A(), A() }\n" + f, "data a { A() }\ncodata b { A() }\n" + f, "data a { A(b) }\n" + f, "data a { A(fun) }\n" + f, "data verylongname { A() }\n" + f, "data a { Verylongname() }\n" + f,
		"data a { A(int, int, int, int, int, int, int) }\n" + f, "data a { A(), B(), C(), D(), E(), F(), G() }\n" + f,
		"fun fun() = done(1);\n", "fun int() = done(1);\n", "fun verylongname() = done(1);\n", f + f, f + "fun f() = done(1);\nfun f() = done(1);\n", "fun main(a0 : int) = done(1);\n", "fun main(x0 : int, x0 : int) = done(1);\n", "fun main(x0 : list) = done(1);\n", "data list { Nil() }\nfun main(x0 : list) = done(1);\n",
		"fun main(x1048577 : int) = done(1);\n", "fun main(x99999999999999999999 : int) = done(1);\n", f + "fun f(x0 : fun) = done(1);\n", f + "fun f(x0 : int, x1 : int, x2 : int, x3 : int, x4 : int, x5 : int, x6 : int) = done(1);\n", strings.Repeat(f, api.MaxFuns+1),
	} {
		refuses(t, s, api.ErrCore)
	}
}

// padded returns the string of a valid program with n bytes.
func padded(n int) string {
	s, end := "fun main() = ", "done(1);\n"
	for len(s)+len(end)+22 < n {
		s += "emit(10000, "
		end = end[:len(end)-2] + ");\n"
	}
	digits := n - len(s) - len(end) - len("emit(, )")
	return s + "emit(1" + strings.Repeat("0", digits-1) + ", " + end[:len(end)-2] + ");\n"
}

func TestP6_5LongStrings(t *testing.T) {
	for n, want := range map[int]api.Errno{api.MaxText - 1: api.OK, api.MaxText: api.OK, api.MaxText + 1: api.ErrLarge} {
		s := padded(n)
		if len(s) != n {
			t.Fatalf("%d bytes, not %d", len(s), n)
		}
		refuses(t, s, want)
	}
	refuses(t, strings.Repeat(" ", api.MaxText), api.ErrText)
	refuses(t, strings.Repeat(" ", api.MaxText+1), api.ErrLarge)
	refuses(t, strings.Repeat("é", api.MaxText), api.ErrLarge)
	for _, s := range []string{"done(", "A(", "mu(a0 : int, ", "ifz(1, ", "match a { A() => ", "call f("} {
		refuses(t, "fun main() = "+strings.Repeat(s, 39980/len(s)), api.ErrText)
	}
	deep := "fun main() = done(" + strings.Repeat("A(", 13300) + strings.Repeat(")", 13300) + ");\n"
	refuses(t, deep, api.ErrCore)
}

// String may be too long where the program is not too large.
func TestP6_5StringTooLong(t *testing.T) {
	c := parsed(t, padded(api.MaxText))
	if s, e := core.String(c); s != padded(api.MaxText) || e != api.OK {
		t.Errorf("%d %d", len(s), e)
	}
	c.Funs[0].Name += "x"
	if s, e := core.String(c); s != "" || e != api.ErrLarge {
		t.Errorf("%d %d", len(s), e)
	}
	c.Funs[0].Name = "Main"
	if s, e := core.String(c); s != "" || e != api.ErrCore {
		t.Errorf("%d %d", len(s), e)
	}
}

func TestP6_6RoundTrip(t *testing.T) {
	large := 0
	for _, c := range made(t, 13, 9, 5000) {
		s, e := core.String(c)
		if e == api.ErrLarge {
			large++
			continue
		}
		if d, f := core.Parse(s); e != api.OK || f != api.OK || !equalOrEmpty(d, c) {
			t.Fatalf("%d %d %s", e, f, s)
		}
	}
	if large > 500 {
		t.Errorf("%d are too large", large)
	}
}

// As deep as permitted, as a string.
func TestP6_6Deep(t *testing.T) {
	c := api.Core{Funs: []api.CoreFun{{Name: "main", Body: emits(api.MaxCoreDepth)}}}
	s, e := core.String(c)
	if d, f := core.Parse(s); e != api.OK || f != api.OK || !equalOrEmpty(d, c) {
		t.Errorf("%d %d", e, f)
	}
	refuses(t, strings.Replace(s, "done(1)", "emit(1, done(1))", 1), api.ErrCore)
}

// A string that is changed is malformed, not valid, or the string of another program.
func TestP6_5ChangedStrings(t *testing.T) {
	var s sample.Numbers = 14
	count := map[api.Errno]int{}
	pieces := []string{"", " ", "\n", "x0", "a0", "0", "-", "1", "(", ")", ", ", "done(1)", "Nil()", "int", "mu(a0 : int, ", "comu(x0 : int, ", "call ", "é", "\x00", "{", "}", " => ", ";", "~", "A", "z"}
	for _, c := range made(t, 15, 0, 3000) {
		in, e := core.String(c)
		if e != api.OK {
			continue
		}
		for range 10 {
			i := s.Below(len(in) + 1)
			j := min(len(in), i+s.Below(4))
			changed := in[:i] + sample.Pick(&s, pieces) + in[j:]
			d, e := core.Parse(changed)
			count[e]++
			if e == api.OK {
				if out, f := core.String(d); out != changed || f != api.OK {
					t.Fatalf("%q: %d %q", changed, f, out)
				}
			} else if !reflect.DeepEqual(d, api.Core{}) {
				t.Fatalf("%d %v", e, d)
			}
		}
	}
	for _, e := range []api.Errno{api.OK, api.ErrText, api.ErrCore} {
		if count[e] < 200 {
			t.Errorf("too few of one kind: %v", count)
		}
	}
}

// Every beginning of a string is malformed, unless it ends with a line.
func TestP6_5Beginnings(t *testing.T) {
	whole := declText + "fun main(x0 : int) = cut(int, mu(a0 : int, prim(==, x0, -12, a0)), comu(x12 : int, ifz(x12, done(0), emit(1, call f(Cons(1, Nil()), comu(x1 : int, done(x1)), 7)))));\nfun f(x0 : list, a0 : int, x1 : int) = cut(list, x0, match list { Nil() => cut(int, 1, a0), Cons(x2, x3) => cut(int, x2, a0) });\n"
	for i := range len(whole) {
		want := api.ErrText
		if i == 0 || whole[i-1] == '\n' {
			want = api.ErrCore
		}
		refuses(t, whole[:i], want)
	}
	refuses(t, whole, api.OK)
}

// No call may panic (P1), whatever the bytes are.
func TestP1NoPanicInParse(t *testing.T) {
	var s sample.Numbers = 16
	pieces := strings.Split("fun |main|() = |done(|1|)|;\n|data |codata |a| { |A|B(| }\n|, |x0|a1| : |int|mu(a0 : int, |comu(x1 : int, |match |  | => | }|cut(|prim(+, |ifz(|emit(|call |-|~|é|\x00", "|")
	for range 50000 {
		var b strings.Builder
		for range s.Below(30) {
			b.WriteString(sample.Pick(&s, pieces))
		}
		c, e := core.Parse(b.String())
		if e != api.OK && e != api.ErrText && e != api.ErrCore || e != api.OK && !reflect.DeepEqual(c, api.Core{}) {
			t.Fatalf("%q: %d", b.String(), e)
		}
	}
}

// No call may panic (P1), whatever the fields are.
func TestP1NoPanicOfNodes(t *testing.T) {
	var s sample.Numbers = 17
	for range 5000 {
		n := wild(&s, 1+s.Below(5))
		for range 3 {
			sample.DisturbNode(&s, &n)
		}
		c := program(t, n)
		if s.Below(2) == 0 {
			c.Decls = nil
		}
		if e := core.Check(c); e != api.ErrCore && e != api.OK {
			t.Fatal(e)
		}
		core.Equal(c, c)
		core.String(c)
		core.Free(n)
		core.Size(n)
		if !core.Same(n, n) {
			t.Fatalf("%v is not equivalent to itself", n)
		}
		if _, e := core.Subst(n, []int{0}, []api.Node{n}, []int{1}, []api.Node{n}); e != api.OK && e != api.ErrLarge {
			t.Fatal(e)
		}
	}
}
