package elab

import (
	"thyrsus/api"
)

// function is (fn (x A) b), of either stage.
func (m *maker) function(l []api.Form) told {
	if l[1].Kind == api.FName {
		return m.fail(api.ErrGuess)
	}
	x, b := l[1].L[0].S, l[2]
	a := m.program(l[1].L[1])
	switch a.a.Op {
	case api.U:
		y := m.below(m.program, b, programVar(x, a.t))
		return told{node(api.Lam, a.t, y.t), meta, node(api.Pi, a.t, y.a)}
	case api.Ty:
		y := m.below(m.code, b, codeVar(x, a.t))
		return told{node(api.OLam, a.t, y.t), object, node(api.TFun, a.t, m.outside(y.a))}
	}
	return m.fail(api.ErrShape)
}

// former is what makes a type of two, of programs and of object code.
type former struct{ program, code int }

// named is (pi (x A) B), (sig (x A) B).
func (p former) named(m *maker, l []api.Form) told {
	x := l[1].L[0].S
	a := m.universe(l[1].L[1])
	b := m.below(m.universe, l[2], programVar(x, a.t))
	return p.over(a, b)
}

// nameless is (-> A B), (* A B). B of programs stands below a variable, too,
// though none that could be named.
func (p former) nameless(m *maker, l []api.Form) told {
	a := m.program(l[1])
	switch a.a.Op {
	case api.U:
		return p.over(a, m.below(m.universe, l[2], programVar("", a.t)))
	case api.Ty:
		b := m.toBeTy().check(l[2])
		return told{node(p.code, a.t, b.t), meta, a.a}
	}
	return m.fail(api.ErrShape)
}

// over is the type of programs of both.
func (p former) over(a, b told) told {
	return told{node(p.program, a.t, b.t), meta, level(max(a.a.N, b.a.N))}
}

// call is (f a ..), of either stage.
func (m *maker) call(l []api.Form) told {
	f := m.infer(l[0])
	for _, a := range l[1:] {
		f = m.called(f, a)
	}
	return f
}

// called is f with one argument more.
func (m *maker) called(f told, a api.Form) told {
	if f.stage == meta && f.a.Op == api.Pi {
		pi := parts(f.a)
		x := goal{m, meta, pi[0]}.check(a)
		return told{node(api.App, f.t, x.t), meta, m.normal(put(pi[0], pi[1], x.t))}
	}
	f = m.coerced(f)
	fun := m.mustBe(f.a, api.TFun, api.ErrShape)
	x := goal{m, object, fun[0]}.check(a)
	return told{node(api.OApp, f.t, x.t), object, fun[1]}
}

// first is (fst p), of either stage.
func (m *maker) first(l []api.Form) told {
	p := m.infer(l[1])
	if p.stage == meta && p.a.Op == api.Sig {
		return told{node(api.Fst, p.t), meta, parts(p.a)[0]}
	}
	p = m.coerced(p)
	return told{node(api.OFst, p.t), object, m.mustBe(p.a, api.TPro, api.ErrShape)[0]}
}

// second is (snd p), of either stage.
func (m *maker) second(l []api.Form) told {
	p := m.infer(l[1])
	if p.stage == meta && p.a.Op == api.Sig {
		sig := parts(p.a)
		return told{node(api.Snd, p.t), meta, put(sig[0], sig[1], node(api.Fst, p.t))}
	}
	p = m.coerced(p)
	return told{node(api.OSnd, p.t), object, m.mustBe(p.a, api.TPro, api.ErrShape)[1]}
}

// successor is (suc n).
func (m *maker) successor(l []api.Form) told {
	n := m.toBeNat().check(l[1])
	return told{node(api.Suc, n.t), meta, n.a}
}

// recursion is (rec (x P) z (n h s) m).
func (m *maker) recursion(l []api.Form) told {
	nat := leaf(api.Nat)
	x, step := l[1].L[0].S, l[3].L
	p := m.below(m.universe, l[1].L[1], programVar(x, nat)).t
	z := m.toBe(meta, put(nat, p, leaf(api.Zero))).check(l[2])
	// s has two variables more than P of outside: n, which is the farther one, and h
	suc := node(api.Suc, api.Tm{Op: api.Var, N: 1})
	to := m.toBe(meta, put(nat, m.shifted(p, 2, 1), suc))
	s := m.below(to.check, step[2], programVar(step[0].S, nat), programVar(step[1].S, p))
	n := m.toBeNat().check(l[4])
	return told{node(api.Rec, p, z.t, s.t, n.t), meta, put(nat, p, n.t)}
}

// lift is (lift A).
func (m *maker) lift(l []api.Form) told {
	a := m.toBeTy().check(l[1])
	return told{node(api.Lift, a.t), meta, level(0)}
}

// quote is (quote t).
func (m *maker) quote(l []api.Form) told {
	x := m.code(l[1])
	return told{node(api.Quo, x.t), meta, node(api.Lift, x.a)}
}
