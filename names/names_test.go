package names

import (
	"strings"
	"testing"

	"chiasmus/api"
)

func TestPlain(t *testing.T) {
	longest := strings.Repeat("a", api.MaxName)
	for _, s := range []string{"a", "z", "a0", "z9", "list", "nat2x", "ints", "lets", "in", "gotos", longest} {
		if !Plain(s) {
			t.Errorf("%q is a name", s)
		}
	}
	for _, s := range []string{"", "0", "9a", "A", "List", "lIst", "a_b", "a b", " a", "a ", "a-b", "a\n", "a\x00", "é", "aé", "a\xff", "`", "{", "a`", "a{", "a/", "a:", longest + "a"} {
		if Plain(s) {
			t.Errorf("%q is not a name", s)
		}
	}
}

func TestReserved(t *testing.T) {
	for _, s := range strings.Fields("data codata fun int ifz case cocase let emit label goto") {
		if Plain(s) {
			t.Errorf("%q is reserved", s)
		}
		if !Plain(s + "x") {
			t.Errorf("%q is not reserved", s+"x")
		}
	}
}

func TestXtor(t *testing.T) {
	longest := "A" + strings.Repeat("a", api.MaxName-1)
	for _, s := range []string{"A", "Z", "A0", "Z9", "Cons", "Nat2x", "Int", "Let", longest} {
		if !Xtor(s) {
			t.Errorf("%q is the name of an xtor", s)
		}
	}
	for _, s := range []string{"", "0", "a", "cons", "9A", "AB", "ConS", "A_b", "A b", " A", "A ", "A~", "A\n", "É", "Aé", "A\xff", "@", "[", "A@", "A[", longest + "a"} {
		if Xtor(s) {
			t.Errorf("%q is not the name of an xtor", s)
		}
	}
}

func TestType(t *testing.T) {
	l := []api.Decl{{Name: "list"}, {Name: "stream", Codata: true}}
	for n, want := range []string{"int", "list", "stream"} {
		if s := Type(l, n); s != want {
			t.Errorf("%d: %q, not %q", n, s, want)
		}
	}
}
