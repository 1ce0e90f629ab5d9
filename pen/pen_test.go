package pen

import (
	"testing"

	"chiasmus/api"
)

func TestPen(t *testing.T) {
	p := Pen{Decls: []api.Decl{
		{Name: "list", Xtors: []api.Xtor{{Name: "Nil"}, {Name: "Cons"}}},
		{Name: "stream", Codata: true, Xtors: []api.Xtor{{Name: "Head"}}},
	}}
	p.Put()
	p.Put("types: ")
	for i := range 3 {
		p.Separate(i)
		p.Put(p.Type(i))
	}
	p.Put("; ", "xtors: ", p.Xtor(1, 0), " ", p.Xtor(1, 1), " ", p.Xtor(2, 0))
	if got, want := p.String(), "types: int, list, stream; xtors: Nil Cons Head"; got != want {
		t.Errorf("%q, not %q", got, want)
	}
}
