package elab

import (
	"thyrsus/api"
)

// splice is (splice t).
func (m *maker) splice(l []api.Form) told { return m.coerced(m.program(l[1])) }

// pair is (pair a b), of object code.
func (m *maker) pair(l []api.Form) told {
	a := m.infer(l[1])
	if a.stage != object {
		return m.fail(api.ErrGuess)
	}
	b := m.code(l[2])
	return told{node(api.OPair, a.t, b.t), object, node(api.TPro, a.a, b.a)}
}

// prim is one of add, sub, mul, div, less.
type prim int

func (p prim) infer(m *maker, l []api.Form) told {
	a := m.toBeInt().check(l[1])
	b := m.toBeInt().check(l[2])
	return told{api.Tm{Op: api.OPrim, N: int(p), Kids: []api.Tm{a.t, b.t}}, object, a.a}
}

// choice is (if c a b).
func (m *maker) choice(l []api.Form) told {
	c := m.toBeInt().check(l[1])
	a := m.code(l[2])
	b := goal{m, object, a.a}.check(l[3])
	return told{node(api.OIf, c.t, a.t, b.t), object, a.a}
}

// let is (let (x t) b).
func (m *maker) let(l []api.Form) told {
	t := m.code(l[1].L[1])
	b := m.below(m.code, l[2], codeVar(l[1].L[0].S, t.a))
	return told{node(api.OLet, t.t, b.t), object, m.outside(b.a)}
}

// fix is (fix (x A) b).
func (m *maker) fix(l []api.Form) told {
	a := m.toBeTy().check(l[1].L[1])
	is := m.normal(a.t)
	to := goal{m, object, farther(is, 1)}
	b := m.below(to.check, l[2], codeVar(l[1].L[0].S, is))
	return told{node(api.OFix, a.t, b.t), object, is}
}

// the is (the A t), of either stage.
func (m *maker) the(l []api.Form) told {
	a := m.program(l[1])
	switch a.a.Op {
	case api.U:
		return m.toBe(meta, a.t).check(l[2])
	case api.Ty:
		return m.toBe(object, a.t).check(l[2])
	}
	return m.fail(api.ErrShape)
}
