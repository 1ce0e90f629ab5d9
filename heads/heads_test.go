package heads

import (
	"slices"
	"testing"

	"chiasmus/api"
)

func TestProducers(t *testing.T) {
	for _, c := range []struct {
		args []api.Arg
		want []int
	}{
		{nil, nil},
		{[]api.Arg{{Type: 3, Co: true}}, nil},
		{[]api.Arg{{Type: 3}, {Type: 1}, {Type: 3}}, []int{3, 1, 3}},
		{[]api.Arg{{Type: 5, Co: true}, {Type: 2}, {Type: 4, Co: true}, {}}, []int{2, 0}},
	} {
		if got := Producers(api.Xtor{Args: c.args}); !slices.Equal(got, c.want) {
			t.Errorf("%v: %v, not %v", c.args, got, c.want)
		}
	}
}

func TestParams(t *testing.T) {
	f := api.Fun{Result: 7, Params: []api.Param{{Name: "a", Type: 2}, {Name: "b"}, {Name: "c", Type: 1}}}
	if got := Params(f); !slices.Equal(got, []int{2, 0, 1}) {
		t.Errorf("%v", got)
	}
	if got := Params(api.Fun{}); len(got) != 0 {
		t.Errorf("%v", got)
	}
}

func TestArgsAndTypes(t *testing.T) {
	c := api.Core{
		Decls: []api.Decl{{Xtors: []api.Xtor{{}, {Args: []api.Arg{{Type: 2}, {Type: 1, Co: true}}}}}, {Codata: true, Xtors: []api.Xtor{{Args: []api.Arg{{Co: true}}}}}},
		Funs:  []api.CoreFun{{}, {Params: []api.Arg{{Type: 1}, {}, {Type: 2, Co: true}}}},
	}
	for _, e := range []struct {
		n    api.Node
		want []api.Arg
	}{
		{api.Node{Op: api.PXtor, Type: 1}, nil},
		{api.Node{Op: api.PXtor, Type: 1, N: 1}, []api.Arg{{Type: 2}, {Type: 1, Co: true}}},
		{api.Node{Op: api.CXtor, Type: 2}, []api.Arg{{Co: true}}},
		{api.Node{Op: api.KCall, N: 1}, []api.Arg{{Type: 1}, {}, {Type: 2, Co: true}}},
		{api.Node{Op: api.KCall}, nil},
		{api.Node{Op: api.KCut, Type: 1, N: 1}, nil},
		{api.Node{Op: api.PMatch, Type: 99}, nil},
	} {
		if got := Args(c, e.n); !slices.Equal(got, e.want) {
			t.Errorf("%v: %v, not %v", e.n, got, e.want)
		}
	}
	if got := Types(c.Funs[1].Params); !slices.Equal(got, []int{1, 0, 2}) {
		t.Errorf("%v", got)
	}
	if got := Types(nil); len(got) != 0 {
		t.Errorf("%v", got)
	}
}
