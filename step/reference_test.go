package step_test

import (
	"testing"

	"chiasmus/api"
	"chiasmus/core"
	"chiasmus/decl"
	"chiasmus/focus"
	"chiasmus/prim"
)

// reference runs a program as the chapter says it: each command is a node, and what is substituted is copied into it.
type reference struct {
	focused api.Core
	rules   map[string]int // how often each rule was applied
}

func newReference(t *testing.T, c api.Core) *reference {
	t.Helper()
	focused, e := focus.Focus(c)
	if e != api.OK {
		t.Fatalf("%s: %d", text(c), e)
	}
	return &reference{focused, map[string]int{}}
}

// replaced returns the body of a branch in which args replace its variables. It is false if there are too many nodes.
func replaced(b api.Branch, args []api.Node) (api.Node, bool) {
	var numbers [2][]int
	var nodes [2][]api.Node
	for i, n := range b.Vars {
		s := 0
		if b.Co[i] {
			s = 1
		}
		numbers[s], nodes[s] = append(numbers[s], n), append(nodes[s], args[i])
	}
	out, e := core.Subst(b.Body, numbers[0], nodes[0], numbers[1], nodes[1])
	return out, e == api.OK
}

// function returns the focused body of function f with these arguments.
func (r *reference) function(f int, args []api.Node) (api.Node, bool) {
	of := r.focused.Funs[f]
	b := api.Branch{Vars: of.Vars, Body: of.Body}
	for _, a := range of.Params {
		b.Co = append(b.Co, a.Co)
	}
	return replaced(b, args)
}

func (r *reference) start(inputs []int) api.Node {
	var args []api.Node
	for _, n := range inputs {
		args = append(args, num(n))
	}
	k, _ := r.function(0, args)
	return k
}

// cut returns the name of the rule for a cut, the branch that it enters, and the arguments for that.
func (r *reference) cut(k api.Node) (name string, b api.Branch, args []api.Node) {
	p, c := k.Args[0], k.Args[1]
	positive, _ := decl.Positive(r.focused.Decls, k.Type)
	sign := map[bool]string{true: "+", false: "-"}[positive]
	switch {
	case p.Op == api.PMu && (positive || c.Op != api.CMu):
		return "mu" + sign, api.Branch{Vars: []int{p.N}, Co: []bool{true}, Body: p.Args[0]}, []api.Node{c}
	case c.Op == api.CMu && (!positive || p.Op != api.PMu):
		return "comu" + sign, api.Branch{Vars: []int{c.N}, Co: []bool{false}, Body: c.Args[0]}, []api.Node{p}
	case p.Op == api.PXtor && c.Op == api.CMatch:
		return "match" + sign, c.Branches[p.N], p.Args
	case p.Op == api.PMatch && c.Op == api.CXtor:
		return "match" + sign, p.Branches[c.N], c.Args
	}
	return "", api.Branch{}, nil
}

// next changes the run and the command by one rule. It returns false if the command is too large.
func (r *reference) next(run *api.Run, k *api.Node) (ok bool) {
	now, name, ok := *k, "", true
	var l []int
	for _, a := range now.Args {
		if a.Op == api.PInt {
			l = append(l, a.N)
		}
	}
	switch {
	case now.Op == api.KCut:
		var b api.Branch
		var args []api.Node
		if name, b, args = r.cut(now); name != "" {
			*k, ok = replaced(b, args)
		}
	case now.Op == api.KPrim && len(l) == 2:
		*k, name = cut(0, num(prim.Result(now.N, l[0], l[1])), now.Args[2]), "prim"
	case now.Op == api.KIfz && len(l) == 1 && l[0] == 0:
		*k, name = now.Args[1], "ifz"
	case now.Op == api.KIfz && len(l) == 1:
		*k, name = now.Args[2], "ifz"
	case now.Op == api.KEmit && len(l) == 1:
		*k, name = now.Args[1], "emit"
		run.Outs = append(run.Outs, l[0])
	case now.Op == api.KCall:
		name = "call"
		*k, ok = r.function(now.N, now.Args)
	case now.Op == api.KDone && len(l) == 1:
		run.End, run.Val, name = api.Done, l[0], "done"
	}
	if name == "" {
		run.End = api.Stuck
		return true
	}
	run.Steps++
	r.rules[name]++
	_, depth := core.Size(*k)
	return ok && depth <= api.MaxCoreDepth
}

// run returns the run and its commands.
func (r *reference) run(fuel int, inputs []int) (run api.Run, commands []api.Node, e api.Errno) {
	run.End = api.Spent
	k := r.start(inputs)
	commands = append(commands, k)
	for run.End == api.Spent && run.Steps < fuel {
		if !r.next(&run, &k) {
			return api.Run{}, commands, api.ErrLarge
		}
		if run.End == api.Spent {
			commands = append(commands, k)
		}
	}
	return run, commands, api.OK
}
