package text_test

import (
	"reflect"
	"strconv"
	"strings"
	"testing"

	"chiasmus/api"
	"chiasmus/text"
)

// parses checks that the string of p is parsed as p, if it is written as s.
func parses(t *testing.T, s string, p api.Prog) {
	t.Helper()
	if q, e := text.Parse(s); !reflect.DeepEqual(q, p) || e != api.OK {
		t.Errorf("%q: %d %v", s, e, q)
	}
}

// reads checks that s is read as the program with the string want.
func reads(t *testing.T, s, want string) {
	t.Helper()
	p, e := text.Parse(s)
	if e != api.OK {
		t.Errorf("%q: %d", s, e)
	} else if got, _ := text.String(p); got != want {
		t.Errorf("%q: %s, not %s", s, got, want)
	}
}

// fails checks that s is not parsed, and that there is nothing next to the error (R3).
func fails(t *testing.T, s string, want api.Errno) {
	t.Helper()
	if p, e := text.Parse(s); e != want || !reflect.DeepEqual(p, api.Prog{}) {
		t.Errorf("%.200q: %d, not %d: %v", s, e, want, p)
	}
}

func TestP3_2Terms(t *testing.T) {
	for _, x := range allSamples() {
		parses(t, wrap(x.s), program(x.t))
	}
}

// What is declared may be used before.
func TestP3_2AnyOrder(t *testing.T) {
	for _, s := range []string{
		"data a { A(b, c) }\ndata b { B(c) }\ncodata c { C(a, ~b) }\nfun main() : int = 1;\n",
		"fun main() : int = f(g(1));\nfun f(x : int) : int = g(main());\nfun g(x : int) : int = f(x);\n",
		"data a { A() }\nfun a(a : a) : a = let(a : a = a(a), label(a : a, goto(a, case a(a) { A() => a } : a)));\n",
	} {
		s = strings.Replace(s, "fun a(", "fun main() : int = 0;\nfun a(", 1)
		reads(t, s, s)
	}
}

func TestP3_2Words(t *testing.T) {
	for _, s := range []string{
		"data az09 { Az09(), Za90(), A(), Z(), M5() }\nfun main(a : int, z : int, a0 : int, z9 : int, m5 : int, az09 : int) : int = emit(Az09(), emit(Za90(), emit(A(), emit(Z(), emit(M5(), emit(a, emit(z, emit(a0, emit(z9, emit(m5, az09))))))))));\n",
		"data datax { D0() }\nfun ifz0(int1 : int) : int = let(emit2 : datax = case3(int1), goto4(emit2, label5()));\nfun case3(codatax : int) : int = codatax;\nfun goto4(funx : int, cocase6 : int) : int = cocase6;\nfun label5() : int = 1;\n",
		"data abcdefghij { Abcdefghij() }\nfun a234567890(abcdefghij : int) : int = Abcdefghij();\n",
	} {
		reads(t, s, s)
	}
}

// spaced has a blank between any two tokens.
const spaced = "data list { Nil ( ) , Cons ( int , list ) } codata fn { Ap ( int , list , ~ int ) } " +
	"fun main ( n : int , m : int ) : int = " +
	"let ( x : int = ( n - -1 ) , label ( k : int , ifz ( ( x == 2 ) , " +
	"f ( Cons ( x , Nil ( ) ) ) . Ap ( 1 , Nil ( ) ) , goto ( k , emit ( 1 , m ) : int ) ) ) ) ; " +
	"fun f ( l : list ) : fn = case list ( l ) { Nil ( ) => cocase fn { Ap ( a , b ) => ( a < -1 ) } , " +
	"Cons ( y , z ) => f ( z ) } ;"

const spacedString = `data list { Nil(), Cons(int, list) }
codata fn { Ap(int, list, ~int) }
fun main(n : int, m : int) : int = let(x : int = (n - -1), label(k : int, ifz((x == 2), f(Cons(x, Nil())).Ap(1, Nil()), goto(k, emit(1, m) : int))));
fun f(l : list) : fn = case list(l) { Nil() => cocase fn { Ap(a, b) => (a < -1) }, Cons(y, z) => f(z) };
`

// squeeze joins tokens without blanks, unless two words need one.
func squeeze(tokens []string) string {
	var b strings.Builder
	for i, s := range tokens {
		if i > 0 && isWord(s) && isWord(tokens[i-1]) {
			b.WriteString(" ")
		}
		b.WriteString(s)
	}
	return b.String()
}

func isWord(s string) bool {
	return strings.Trim(s, "{}()~,:;.=>+-*/%<") == s
}

func TestP3_2Blanks(t *testing.T) {
	tokens := strings.Fields(spaced)
	for _, between := range []string{" ", "\n", "   ", "\n\n", " \n ", "\n \n"} {
		reads(t, strings.Join(tokens, between), spacedString)
		reads(t, between+squeeze(tokens)+between, spacedString)
	}
	reads(t, squeeze(tokens), spacedString)
	for i := range tokens {
		reads(t, squeeze(tokens[:i])+" "+squeeze(tokens[i:]), spacedString)
		reads(t, squeeze(tokens[:i])+"\n"+squeeze(tokens[i:]), spacedString)
	}
}

// No blank may be inside of a token, and between two words there must be one.
func TestP3_2BlanksThatMatter(t *testing.T) {
	for _, s := range []string{
		"datalist { A() } " + bare("1"), "da ta list { A() } " + bare("1"), "data a { A() }funmain() : int = 1;",
		"fun main() : int = (1 = = 1);", "data a { A() } fun main() : int = case a(A()) { A() = > 1 };",
		bare("1 2"), bare("(1 + - 2)"), "f un main() : int = 1;", "funmain() : int = 1;", "data a { A() } " + bare("casea(A()) { A() => 1 }"),
	} {
		fails(t, s, api.ErrText)
	}
	fails(t, bare("ifz0(1, 2, 3)"), api.ErrProg)
	fails(t, "data a { A() } fun main() : int = cas e;", api.ErrText)
}

// A minus belongs to a number, or is an operator: the token before it decides.
func TestP3_2Minus(t *testing.T) {
	object := "cocase c { D() => 1 }"
	for s, want := range map[string]string{
		"(1-2)":                "(1 - 2)",
		"(1 -2)":               "(1 - 2)",
		"(1 - 2)":              "(1 - 2)",
		"(1- 2)":               "(1 - 2)",
		"(1\n-\n2)":            "(1 - 2)",
		"(1--2)":               "(1 - -2)",
		"(1 - -2)":             "(1 - -2)",
		"(-1-2)":               "(-1 - 2)",
		"(-1--2)":              "(-1 - -2)",
		"( -1 - -2 )":          "(-1 - -2)",
		"(1+-2)":               "(1 + -2)",
		"(1<-2)":               "(1 < -2)",
		"(1==-2)":              "(1 == -2)",
		"(f()-2)":              "(f() - 2)",
		"((1+1)-2)":            "((1 + 1) - 2)",
		"(f() -f())":           "(f() - f())",
		"(0-0)":                "(0 - 0)",
		"(1-(1-2))":            "(1 - (1 - 2))",
		"let(x:int=-1,(x-1))":  "let(x : int = -1, (x - 1))",
		"let(x:int=1,(x -1))":  "let(x : int = 1, (x - 1))",
		"emit(-1,-2)":          "emit(-1, -2)",
		"(" + object + " - 1)": "(" + object + " - 1)",
		"(" + object + "--1)":  "(" + object + " - -1)",
		"(" + object + "-0)":   "(" + object + " - 0)",
		"(" + object + "-f())": "(" + object + " - f())",
		"-9223372036854775808": "-9223372036854775808",
	} {
		declared := "codata c { D(~int) }\n"
		rest := "fun f() : int = 1;\n"
		reads(t, declared+bare(s)+rest, declared+bare(want)+rest)
	}
	for _, s := range []string{
		"-0", "-01", "01", "00", "007", "- 1", "--1", "-x", "-f()", "-(1 + 1)", "(1---1)", "(-0 + 1)", "(1 + -0)", "(1 - -0)", "(1 1)", "(1 - 01)",
		"(" + object + "-1)", "(" + object + " -1)", "(" + object + "-01)", "1x", "(1 -- 1)",
	} {
		fails(t, "codata c { D(~int) }\nfun f() : int = 1;\n"+bare(s), api.ErrText)
	}
}

// A byte that belongs to no token is malformed wherever it is.
func TestP3_2Bytes(t *testing.T) {
	tokens := strings.Fields(spaced)
	known := "{}()~,:;.=+-*/%< \nabcdefghijklmnopqrstuvwxyzABCDEFGHIJKLMNOPQRSTUVWXYZ0123456789"
	for b := range 256 {
		c := string([]byte{byte(b)})
		if strings.Contains(known, c) {
			continue
		}
		for i := range tokens {
			fails(t, strings.Join(tokens[:i], " ")+c+strings.Join(tokens[i:], " "), api.ErrText)
			fails(t, strings.Join(tokens[:i], " ")+" "+c+" "+strings.Join(tokens[i:], " "), api.ErrText)
		}
		fails(t, spaced+c, api.ErrText)
	}
	for _, s := range []string{"\t", "\r\n", ">", "é", "\u00a0", "\x00", "_", "\"", "//", "#", "=>", "<", "==", ";", "1", "x", "X", "fun", "data a { A() }"} {
		fails(t, spaced+" "+s, api.ErrText)
	}
}

func TestP3_2Malformed(t *testing.T) {
	for _, s := range []string{
		"fun", "data", "codata", "fun main", "fun main()", "fun main() :", "fun main() : int", "fun main() : int =", "fun main() : int = 1",
		"function main() : int = 1;", "int", "1", "x", "X", ";", "(", "fun main() : int = ;", "fun main() : int = 1;;", "fun main() = 1;",
		"fun Main() : int = 1;", "fun 1() : int = 1;", "fun main() : Int = 1;", "fun main() : 1 = 1;", "fun main() : ~int = 1;",
		"fun main(x) : int = 1;", "fun main(x : int,) : int = 1;", "fun main(, x : int) : int = 1;", "fun main(X : int) : int = 1;", "fun main(x : A) : int = 1;",
		"fun main(x : int y : int) : int = 1;", "fun main(x : int; y : int) : int = 1;", "fun main : int = 1;", "fun main() : int == 1;", "fun main() : int => 1;",
		"data a " + bare("1"), "data a {" + bare("1"), "data { A() } " + bare("1"), "data A { A() } " + bare("1"), "data a { a() } " + bare("1"),
		"data a { A } " + bare("1"), "data a { A(), } " + bare("1"), "data a { A() B() } " + bare("1"), "data a { A(int,) } " + bare("1"), "data a { A(Int) } " + bare("1"),
		"codata a { A(~) } " + bare("1"), "codata a { A(~~int) } " + bare("1"), "codata a { A(int~) } " + bare("1"), "data a ( A() ) " + bare("1"), "data a { A() }; " + bare("1"),
		bare("1") + "data a { A() }", bare("1") + "codata a { A(~int) }\n" + bare("1"), "data a { 1() } " + bare("1"),
	} {
		fails(t, s, api.ErrText)
	}
}

func TestP3_2MalformedTerms(t *testing.T) {
	for _, s := range []string{
		"", ")", "()", "(1)", "(1 + 2", "(1 + 2 + 3)", "(1 2)", "(+ 1 2)", "(1 +)", "1 + 2", "(1 = 2)", "(1 => 2)", "(1 . 2)", "(1, 2)", "(1 : 2)", "(1 > 2)", "(1 ~ 2)", "(1 ; 2)",
		"ifz", "ifz(", "ifz()", "ifz(1)", "ifz(1, 2)", "ifz(1, 2, 3, 4)", "ifz(1, 2, 3,)", "ifz 1, 2, 3", "ifz.Head()",
		"emit", "emit()", "emit(1)", "emit(1, 2, 3)", "emit(1 2)", "emit + 1", "(emit - 1)",
		"A", "A(", "A(1,)", "A(,)", "A(1 2)", "A{}", "A.B()", "A(B)", "f(", "f(1,)", "f(,1)", "f(1 2)", "x y", "f()()", "x(1)(2)", "1()", "A()()", "(1 + 2)()",
		"x.", "x.y()", "x.A", "x.1()", "x.A().", "x.A()()", "x..A()", "x.(1)", ".A()", "1.5",
		"let", "let()", "let(x : int = 1)", "let(x : int, 1)", "let(x = 1, 2)", "let(X : int = 1, 2)", "let(x : int = 1, 2, 3)", "let(1 : int = 1, 2)", "let(x : A = 1, 2)", "let x : int = 1, 2", "let(x : int == 1, 2)", "let(x : int = 1; 2)",
		"label", "label()", "label(k, 1)", "label(k : int)", "label(k : int, 1, 2)", "label(K : int, 1)", "label(k : int = 1, 2)", "label(k : 1, 1)", "label(1 : int, 1)",
		"goto", "goto()", "goto(k)", "goto(k, 1)", "goto(k : int, 1)", "goto(K, 1 : int)", "goto(k, 1 : Int)", "goto(k, 1 : int, 2)", "goto(1, 1 : int)", "goto(k, : int)", "goto(k, 1 : ~int)",
		"case", "case a", "case a(1)", "case a { }", "case (1) { }", "case a() { }", "case a(1, 2) { }", "case A(1) { }", "case(1) { A() => 1 }", "case a(1) { A => 1 }", "case a(1) { A() }",
		"case a(1) { A() => }", "case a(1) { A() => 1, }", "case a(1) { A() => 1 B() => 1 }", "case a(1) { A(B) => 1 }", "case a(1) { A(1) => 1 }", "case a(1) { A(x y) => 1 }", "case a(1) { A(x,) => 1 }", "case a(1) { a() => 1 }",
		"case a(1) { A() = 1 }", "case a(1) { A() == 1 }", "case a(1) ( A() => 1 )", "case a(1) { 1 }", "case a(1) { A() => 1; B() => 1 }",
		"cocase", "cocase a", "cocase a(1) { }", "cocase A { }", "cocase { }", "cocase a { A }", "cocase a { A() => }", "cocase a { A() => 1, }", "cocase a { A(x : int) => 1 }", "cocase a { A(~x) => 1 }",
		"cocase 1 { }", "case.A()", "cocase.A()", "let.A()", "goto.A()", "(case - 1)", "label - 1", "~x", "{ 1 }", ":", "=", "1;", "fun f() : int = 1",
	} {
		fails(t, bare(s), api.ErrText)
		fails(t, bare("emit(1, "+s+")"), api.ErrText)
		fails(t, "data a { A(), B() } "+bare("case a(A()) { A() => "+s+", B() => 1 }"), api.ErrText)
	}
}

func TestP3_2Invalid(t *testing.T) {
	for _, s := range []string{
		"", " \n", "data a { A() }", "data a { } " + bare("1"), "codata a { } " + bare("1"), "data a { A(b) } " + bare("1"), "data a { A(~int) } " + bare("1"), "codata a { A() } " + bare("1"), "codata a { A(int) } " + bare("1"),
		"codata a { A(~int, int) } " + bare("1"), "codata a { A(~int, ~int) } " + bare("1"), "data int { A() } " + bare("1"), "data data { A() } " + bare("1"), "data let { A() } " + bare("1"),
		"data a { A() } data a { B() } " + bare("1"), "data a { A() } data b { A() } " + bare("1"), "data a { A(), A() } " + bare("1"), "data a { A(let) } " + bare("1"), "data a { A(fun) } " + bare("1"),
		"data abcdefghijk { A() } " + bare("1"), "data a { Abcdefghijk() } " + bare("1"), "data a { A(int, int, int, int, int, int, int) } " + bare("1"), "data a { A(), B(), C(), D(), E(), F(), G() } " + bare("1"),
		"fun let() : int = 1;", "fun fun() : int = 1;", "fun int() : int = 1;", "fun main() : list = 1;", "fun main(int : int) : int = 1;", "fun main(goto : int) : int = 1;", "fun main(x : x) : int = 1;", "fun main(x : goto) : int = 1;",
		"fun main(x : int, x : int) : int = 1;", "fun main() : emit = 1;", "fun abcdefghijk() : int = 1;", "fun main(abcdefghijk : int) : int = 1;", bare("1") + bare("1"),
		"fun main(a : int, b : int, c : int, d : int, e : int, f : int, g : int) : int = 1;", "data a { A() } fun main(x : a) : int = 1;", "data a { A() } fun main() : a = A();",
		strings.Repeat(bare("1"), 2), "data a { A() } fun main() : int = 1; fun f(x : b) : a = A();", "data a { A() } fun main() : int = 1; fun f() : b = A();",
	} {
		fails(t, s, api.ErrProg)
	}
}

func TestP3_2InvalidTerms(t *testing.T) {
	for _, s := range []string{
		"z", "data", "codata", "fun", "int", "main", "z()", "fun()", "data(1)", "int(x)", "codata(x, y)", "f", "f()", "f(x)", "f(x, y, x)", "list(x)", "k", "k()", "abcdefghijk",
		"No()", "No(1)", "x.No()", "Nil(1)", "Cons()", "Cons(1)", "Cons(1, x, y)", "Head()", "Head(y)", "Ap(1, x, y)", "y.Nil()", "y.Cons(1)", "y.Cons(1, x)", "y.Head(1)", "y.Ap()", "y.Ap(1)", "y.Ap(1, x, y)", "Consabcdefghi()",
		"case list(x) { }", "case list(x) { Nil() => 1 }", "case list(x) { Cons(a, b) => 1 }", "case list(x) { Cons(a, b) => 1, Nil() => 1 }", "case list(x) { Nil() => 1, Cons(a, b) => 1, Nil() => 1 }", "case list(x) { Nil() => 1, No(a, b) => 1 }",
		"case list(x) { Nil(a) => 1, Cons(a, b) => 1 }", "case list(x) { Nil() => 1, Cons(a) => 1 }", "case list(x) { Nil() => 1, Cons() => 1 }", "case list(x) { Nil() => 1, Cons(a, b, c) => 1 }", "case list(x) { Nil() => 1, Cons(a, a) => 1 }",
		"case list(x) { Nil() => 1, Cons(a, let) => 1 }", "case list(x) { Nil() => 1, Cons(int, b) => 1 }", "case list(x) { Nil() => a, Cons(a, b) => a }", "case stream(y) { Head() => 1, Tail() => 1 }", "case list(x) { Head() => 1, Tail() => 1 }",
		"case no(x) { Nil() => 1, Cons(a, b) => 1 }", "case int(x) { }", "case int(x) { Nil() => 1, Cons(a, b) => 1 }", "case fun(x) { }", "case stream(y) { Nil() => 1, Cons(a, b) => 1 }", "case list(z) { Nil() => 1, Cons(a, b) => 1 }",
		"cocase stream { }", "cocase stream { Head() => 1 }", "cocase stream { Tail() => 1, Head() => 1 }", "cocase stream { Head() => 1, Tail() => 1, Tail() => 1 }", "cocase stream { Head(a) => 1, Tail() => 1 }", "cocase stream { Nil() => 1, Cons(a, b) => 1 }",
		"cocase list { Nil() => 1, Cons(a, b) => 1 }", "cocase fn { Ap(a, b, c) => 1 }", "cocase fn { Ap(a) => 1 }", "cocase fn { Ap(a, a) => 1 }", "cocase fn { Ap(emit, b) => 1 }", "cocase int { }", "cocase no { }", "cocase let { }",
		"let(int : int = 1, 2)", "let(let : int = 1, 2)", "let(z : no = 1, 2)", "let(z : let = 1, 2)", "let(z : int = z, 2)", "let(abcdefghijk : int = 1, 2)",
		"label(int : int, 1)", "label(case : int, 1)", "label(j : no, 1)", "label(j : case, 1)", "label(abcdefghijk : int, 1)", "label(j : int, j)",
		"goto(x, 1 : int)", "goto(z, 1 : int)", "goto(goto, 1 : int)", "goto(k, 1 : no)", "goto(k, 1 : goto)", "goto(k, z : int)", "goto(abcdefghijk, 1 : int)",
		"9223372036854775808", "-9223372036854775809", "18446744073709551616", strings.Repeat("9", 1000), "-" + strings.Repeat("9", 1000), "(1 + 9223372036854775808)",
	} {
		fails(t, wrap(s), api.ErrProg)
		fails(t, wrap("emit("+s+", 1)"), api.ErrProg)
		fails(t, wrap("cocase fn { Ap(p, q) => "+s+".Head() }"), api.ErrProg)
	}
}

// The lists of a program are limited, not those of a string.
func TestP3_2Limits(t *testing.T) {
	funs := func(n int) string {
		s := bare("1")
		for i := range n - 1 {
			s += "fun f" + strconv.Itoa(i) + "() : int = 1;\n"
		}
		return s
	}
	types := func(n int) string {
		s := ""
		for i := range n {
			s += "data d" + strconv.Itoa(i) + " { D" + strconv.Itoa(i) + "() }\n"
		}
		return s + bare("1")
	}
	nested := func(depth int) string {
		return bare(strings.Repeat("ifz(1, 1, ", depth-1) + "1" + strings.Repeat(")", depth-1))
	}
	wide := func(nodes int) string {
		s := "1"
		for range nodes/2 - 1 {
			s = "emit(1, " + s + ")"
			if len(s)%16 == 0 {
				s = "label(k : int, " + s + ")"
			}
		}
		return bare(s)
	}
	for _, s := range []string{funs(api.MaxFuns), types(api.MaxDecls), nested(api.MaxDepth), wide(api.MaxDepth)} {
		reads(t, s, s)
	}
	for _, s := range []string{
		funs(api.MaxFuns + 1), types(api.MaxDecls + 1), nested(api.MaxDepth + 1), wide(3 * api.MaxDepth), funs(1000), types(1000),
		bare("f(" + strings.Repeat("1, ", 10000) + "1)"), "data a { A(" + strings.Repeat("int, ", 5000) + "int) } " + bare("1"),
	} {
		fails(t, s, api.ErrProg)
	}
}

// Errors come in the order of the promise, wherever they are in the string.
func TestP3_2Order(t *testing.T) {
	malformed, invalid := "fun f() : int = (1;", bare("z")
	for _, s := range []string{
		invalid + malformed, malformed + invalid, invalid + "!", "data a { A(b) } " + malformed, "data a { A() } data a { A() } !", bare("9223372036854775808") + "1",
		bare("(99999999999999999999 + )"), "fun let(let : let) : let = let;", bare("No(z, 1) 1"), invalid + "data a { A() }",
	} {
		fails(t, s, api.ErrText)
		fails(t, s+strings.Repeat(" ", api.MaxText+1-len(s)), api.ErrLarge)
	}
	fails(t, invalid+strings.Repeat(" ", api.MaxText+1-len(invalid)), api.ErrLarge)
}

func TestP3_2Large(t *testing.T) {
	full := bare("1") + strings.Repeat("\n", api.MaxText-len(bare("1")))
	reads(t, full, bare("1"))
	fails(t, full+"\n", api.ErrLarge)
	fails(t, strings.Repeat("(", api.MaxText), api.ErrText)
	fails(t, strings.Repeat("!", api.MaxText), api.ErrText)
	fails(t, strings.Repeat("!", api.MaxText+1), api.ErrLarge)
	fails(t, strings.Repeat(" ", 1<<24), api.ErrLarge)
}

// Nesting in a string is limited by its length only.
func TestP3_2Deep(t *testing.T) {
	for _, part := range [][2]string{{"(", "+1)"}, {"(1+", ")"}, {"f(", ")"}, {"A(", ")"}, {"", ".A()"}, {"emit(1,", ")"}, {"cocase a{A()=>", "}"}, {"case a(", "){}"}} {
		n := (api.MaxText - 100) / (len(part[0]) + len(part[1]))
		s := bare(strings.Repeat(part[0], n) + "1" + strings.Repeat(part[1], n))
		fails(t, s, api.ErrProg)
		fails(t, s[:len(s)-2], api.ErrText)
		fails(t, bare(strings.Repeat(part[0], n)), api.ErrText)
	}
}

func TestR4ResultsAreNewMemory(t *testing.T) {
	first, _ := text.Parse(spaced)
	second, _ := text.Parse(spaced)
	first.Decls[0].Xtors[1].Args[0].Type = 9
	first.Decls[1].Xtors[0].Name = "Z"
	first.Funs[0].Params[0].Name = "z"
	first.Funs[0].Body.Args[0].Args[0].Name = "z"
	first.Funs[1].Body.Clauses[1].Names[0] = "z"
	if s, e := text.String(second); s != spacedString || e != api.OK {
		t.Errorf("%d %s", e, s)
	}
	reads(t, spaced, spacedString)
}
