package lower_test

import (
	"reflect"
	"slices"
	"testing"

	"chiasmus/api"
	"chiasmus/lower"
	"chiasmus/sample"
)

// spoil changes all that l and everything in it refers to.
func spoil(c *api.Core) {
	for i := range c.Decls {
		for n := range c.Decls[i].Xtors {
			x := &c.Decls[i].Xtors[n]
			for a := range x.Args {
				x.Args[a] = api.Arg{Type: 77, Co: true}
			}
			_ = append(x.Args, api.Arg{Type: 78})
			*x = api.Xtor{Name: "spoiled"}
		}
		c.Decls[i] = api.Decl{Name: "spoiled"}
	}
	for i := range c.Funs {
		f := &c.Funs[i]
		for n := range f.Params {
			f.Params[n], f.Vars[n] = api.Arg{Type: 77}, 77
		}
		spoilNode(&f.Body)
		*f = api.CoreFun{Name: "spoiled"}
	}
}

func spoilNode(n *api.Node) {
	for i := range n.Args {
		spoilNode(&n.Args[i])
	}
	for i := range n.Branches {
		b := &n.Branches[i]
		for j := range b.Vars {
			b.Vars[j], b.Co[j] = 77, !b.Co[j]
		}
		spoilNode(&b.Body)
		*b = api.Branch{}
	}
	*n = api.Node{Op: 77}
}

func TestR4Memory(t *testing.T) {
	again := made(t, 6, 0, 40)
	for i, p := range made(t, 6, 0, 40) {
		c := lowered(t, p)
		if !reflect.DeepEqual(p, again[i]) {
			t.Fatalf("%v has changed", again[i])
		}
		d := lowered(t, p)
		spoil(&c)
		if !reflect.DeepEqual(p, again[i]) {
			t.Fatal("the program shares memory with its translation")
		}
		if e := lowered(t, p); !reflect.DeepEqual(d, e) {
			t.Fatal("translations share memory")
		}
		for f := range p.Funs {
			l, _ := lower.Type(p, f)
			want := slices.Clone(l)
			for i := range l {
				l[i] = api.Arg{Type: 77}
			}
			if l, _ := lower.Type(p, f); !slices.Equal(l, want) || !reflect.DeepEqual(p, again[i]) {
				t.Fatal("parameters share memory")
			}
		}
	}
}

// Elements beyond the length of a slice are not touched.
func TestR4BeyondTheLength(t *testing.T) {
	p := parse(t, declText+headText)
	rest := api.Decl{Name: "rest"}
	decls := append(slices.Clone(p.Decls), rest)
	params := append(slices.Clone(p.Funs[0].Params), api.Param{Name: "rest"})
	args := append(slices.Clone(p.Decls[0].Xtors[1].Args), api.Arg{Type: 55})
	p.Decls, p.Funs[0].Params, p.Decls[0].Xtors[1].Args = decls[:len(p.Decls)], params[:2], args[:2]
	c := lowered(t, p)
	spoil(&c)
	c.Decls = append(c.Decls, api.Decl{Name: "more"})
	l, _ := lower.Type(p, 0)
	_ = append(l, api.Arg{Type: 66})
	if !reflect.DeepEqual(decls[4], rest) || params[2].Name != "rest" || args[2].Type != 55 {
		t.Error("more was written than the slices hold")
	}
}

// R7: equal programs have equal translations.
func TestR7Determinism(t *testing.T) {
	for _, p := range made(t, 7, 0, 100) {
		if a, b := lowered(t, p), lowered(t, p); !reflect.DeepEqual(a, b) {
			t.Fatalf("%v: %v and %v", p, a, b)
		}
	}
}

// No call may panic (P1), whatever the fields of a program are.
func TestP1NoPanic(t *testing.T) {
	s := sample.Numbers(8)
	for _, p := range made(t, 9, 20, 2000) {
		f := s.Below(len(p.Funs))
		sample.Disturb(&s, &p.Funs[f].Body)
		switch s.Below(4) {
		case 0:
			p.Funs[f].Result = s.Below(9) - 2
		case 1:
			p.Funs[f].Params = p.Funs[f].Params[:s.Below(len(p.Funs[f].Params))]
		}
		lower.Lower(p)
		for f := range len(p.Funs) + 3 {
			lower.Type(p, f-1)
		}
	}
}
