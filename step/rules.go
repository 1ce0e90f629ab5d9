package step

import (
	"chiasmus/api"
	"chiasmus/kind"
	"chiasmus/node"
	"chiasmus/prim"
)

// machine executes commands of a focused program.
type machine struct {
	node.Polarities
	core    api.Core
	funs    []branch
	fuel    int
	command *term
	api.Run // what has become of the run so far
}

// newMachine returns a machine without a command. Its run is Spent until it ends in another way.
func newMachine(focused api.Core, fuel int) *machine {
	m := &machine{Polarities: node.NewPolarities(focused.Decls), core: focused, fuel: fuel}
	m.End = api.Spent
	for _, f := range focused.Funs {
		m.funs = append(m.funs, readFun(f))
	}
	return m
}

// isCommand reports whether k is a command that may occur in a run.
func (m *machine) isCommand(k api.Node) bool {
	_, e := kind.Type(m.core, nil, nil, [2][]int{}, k)
	return e == api.OK && k.Op >= api.KCut && m.Focused(k)
}

// run applies rules until the run has ended or no fuel is left. It returns false as soon as a command is too large.
func (m *machine) run() bool {
	rules := m.rules()
commands:
	for m.End == api.Spent && m.Steps < m.fuel {
		for _, applies := range rules {
			if !applies(m.command) {
				continue
			}
			m.Steps++
			if m.command.nodes > api.MaxCore || m.command.depth > api.MaxCoreDepth {
				return false
			}
			continue commands
		}
		m.End = api.Stuck
	}
	return true
}

// rule reports whether it applies to a command. If it does, its machine has the next command afterwards, or its run has ended.
type rule func(k *term) (applies bool)

// rules returns the rules in the order in which they are tried.
func (m *machine) rules() []rule {
	return []rule{
		m.onCut(producerFirst),
		m.onCut(consumerFirst),
		m.onCut(analyzed),
		m.onCut(observed),
		m.on(api.KPrim, 2, func(k *term, l []int) {
			m.command = cut(0, integer(prim.Result(k.n, l[0], l[1])), k.args[2])
		}),
		m.on(api.KIfz, 1, func(k *term, l []int) {
			m.command = k.args[1]
			if l[0] != 0 {
				m.command = k.args[2]
			}
		}),
		m.on(api.KEmit, 1, func(k *term, l []int) {
			m.Outs = append(m.Outs, l[0])
			m.command = k.args[1]
		}),
		m.on(api.KCall, 0, func(k *term, l []int) {
			m.command = m.funs[k.n].apply(k.args...)
		}),
		m.on(api.KDone, 1, func(k *term, l []int) {
			m.End, m.Val = api.Done, l[0]
		}),
	}
}

// onCut returns the rule for cuts after which the command is what next returns. It does not apply where that is nil.
func (m *machine) onCut(next func(positive bool, p, c *term) *term) rule {
	return func(k *term) bool {
		if k.op != api.KCut {
			return false
		}
		after := next(m.Polarities[k.typ], k.args[0], k.args[1])
		if after == nil {
			return false
		}
		m.command = after
		return true
	}
}

// on returns the rule for commands with this operator of which the first Args, as many as are needed, are integers.
func (m *machine) on(op, needed int, apply func(k *term, l []int)) rule {
	return func(k *term) bool {
		if k.op != op {
			return false
		}
		var l []int
		for _, a := range k.args[:needed] {
			if a.op != api.PInt {
				return false
			}
			l = append(l, a.n)
		}
		apply(k, l)
		return true
	}
}

// producerFirst passes the consumer to a mu. Where both sides could run, the polarity decides.
func producerFirst(positive bool, p, c *term) *term {
	if p.op != api.PMu || !positive && c.op == api.CMu {
		return nil
	}
	return p.branches[0].apply(c)
}

// consumerFirst passes the producer to a comu.
func consumerFirst(positive bool, p, c *term) *term {
	if c.op != api.CMu || positive && p.op == api.PMu {
		return nil
	}
	return c.branches[0].apply(p)
}

func analyzed(_ bool, p, c *term) *term {
	if p.op != api.PXtor || c.op != api.CMatch {
		return nil
	}
	return c.branches[p.n].apply(p.args...)
}

func observed(_ bool, p, c *term) *term {
	if p.op != api.PMatch || c.op != api.CXtor {
		return nil
	}
	return p.branches[c.n].apply(c.args...)
}
