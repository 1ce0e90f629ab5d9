package step_test

import (
	"testing"

	"chiasmus/api"
	"chiasmus/core"
	"chiasmus/focus"
	"chiasmus/kind"
	"chiasmus/sample"
	"chiasmus/step"
)

// isFocused asks for a program in which only main does something.
func isFocused(t *testing.T, c api.Core, k api.Node) bool {
	t.Helper()
	d := api.Core{Decls: c.Decls}
	for i, f := range c.Funs {
		f.Body = done(num(0))
		if i == 0 {
			f.Body = k
		}
		d.Funs = append(d.Funs, f)
	}
	is, e := focus.Focused(d)
	if e != api.OK {
		t.Fatalf("%s: %d", shown(c, k), e)
	}
	return is
}

// P10.3: a run is never stuck, and each command in it is closed, focused and well-typed. One step at a time it is the same run.
func TestP10_3(t *testing.T) {
	var s sample.Numbers = 9
	l := made(t, 10, 6, 1500)
	for _, p := range sources(t, 11, 200) {
		l = append(l, lowered(t, p))
	}
	ends := map[int]int{}
	for _, c := range l {
		inputs := []int{s.Below(5) - 2, s.Below(5) - 2}
		k, over := start(t, c, inputs), false
		run := api.Run{End: api.Spent}
		for fuel := 0; !over && fuel < 25; fuel++ {
			if typ, e := kind.Type(c, nil, nil, [2][]int{}, k); typ != 0 || e != api.OK || k.Op < api.KCut || !isFocused(t, c, k) {
				t.Fatalf("%d %d: %s", typ, e, shown(c, k))
			}
			next, r, last, e := step.Next(c, k)
			if e == api.ErrLarge {
				break
			}
			if e != api.OK || r.End == api.Stuck || r.Steps != 1 || last != (k.Op == api.KDone) {
				t.Fatalf("%s: %v %v %d", shown(c, k), r, last, e)
			}
			run.Outs, run.Steps = append(run.Outs, r.Outs...), run.Steps+1
			if last {
				run.End, run.Val = r.End, r.Val
			}
			k, over = next, last
		}
		ends[run.End]++
		if got, e := step.Run(c, run.Steps, inputs); !sameRun(got, run) || e != api.OK {
			t.Fatalf("%v %d, not %v: %s", got, e, run, text(c))
		}
	}
	if ends[api.Done] < 500 || ends[api.Spent] < 100 {
		t.Error(ends)
	}
}

// Whether a program is focused, and how its variables are numbered, changes nothing.
func TestP10_1FocusedBefore(t *testing.T) {
	changed := 0
	for _, c := range made(t, 12, 6, 1000) {
		d, e := focus.Focus(c)
		if e != api.OK {
			t.Fatal(e)
		}
		r, e := step.Run(c, 50, []int{1, 2})
		if again, f := step.Run(d, 50, []int{1, 2}); !sameRun(r, again) || e != f {
			t.Fatalf("%v %d, and %v %d: %s", r, e, again, f, text(c))
		}
		if !core.Same(start(t, c, []int{1, 2}), start(t, d, []int{1, 2})) {
			t.Fatal(text(c))
		}
		if is, _ := core.Equal(c, d); !is {
			changed++
		}
	}
	if changed < 300 {
		t.Errorf("only %d were not focused", changed)
	}
}
