package heads

import (
	"slices"
	"testing"

	"chiasmus/api"
)

func TestProducers(t *testing.T) {
	for _, c := range []struct {
		args []api.Arg
		want []int
	}{
		{nil, nil},
		{[]api.Arg{{Type: 3, Co: true}}, nil},
		{[]api.Arg{{Type: 3}, {Type: 1}, {Type: 3}}, []int{3, 1, 3}},
		{[]api.Arg{{Type: 5, Co: true}, {Type: 2}, {Type: 4, Co: true}, {}}, []int{2, 0}},
	} {
		if got := Producers(api.Xtor{Args: c.args}); !slices.Equal(got, c.want) {
			t.Errorf("%v: %v, not %v", c.args, got, c.want)
		}
	}
}

func TestParams(t *testing.T) {
	f := api.Fun{Result: 7, Params: []api.Param{{Name: "a", Type: 2}, {Name: "b"}, {Name: "c", Type: 1}}}
	if got := Params(f); !slices.Equal(got, []int{2, 0, 1}) {
		t.Errorf("%v", got)
	}
	if got := Params(api.Fun{}); len(got) != 0 {
		t.Errorf("%v", got)
	}
}
