package copies

import (
	"reflect"
	"testing"

	"chiasmus/api"
)

func TestDecls(t *testing.T) {
	made := func() []api.Decl {
		return []api.Decl{
			{Name: "list", Xtors: []api.Xtor{{Name: "Nil"}, {Name: "Cons", Args: []api.Arg{{}, {Type: 1}}}}},
			{Name: "s", Codata: true, Xtors: []api.Xtor{{Name: "Head", Args: []api.Arg{{Co: true}}}}},
		}
	}
	l := made()
	got := Decls(l)
	if !reflect.DeepEqual(got, made()) {
		t.Errorf("%v", got)
	}
	l[0].Name, l[0].Xtors[0].Name, l[0].Xtors[1].Args[1].Type, l[1].Xtors[0].Args[0].Co = "x", "X", 7, false
	if !reflect.DeepEqual(got, made()) {
		t.Errorf("%v has changed", got)
	}
	if got := Decls(nil); len(got) != 0 {
		t.Errorf("%v", got)
	}
}
