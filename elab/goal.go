package elab

import (
	"thyrsus/api"
)

// goal is a type, normal, that a form is to have, at a stage.
type goal struct {
	m     *maker
	stage int
	a     api.Tm
}

// toBe is the goal of a type that may have steps.
func (m *maker) toBe(stage int, a api.Tm) goal { return goal{m, stage, m.normal(a)} }

func (m *maker) toBeNat() goal { return goal{m, meta, leaf(api.Nat)} }

func (m *maker) toBeTy() goal { return goal{m, meta, leaf(api.Ty)} }

func (m *maker) toBeInt() goal { return goal{m, object, leaf(api.TInt)} }

// got is a term of the goal's type.
func (w goal) got(t api.Tm) told { return told{t, w.stage, w.a} }

// check makes a form's term. It may call itself by the rules, as infer may.
func (w goal) check(f api.Form) told {
	made := w.m.guided(f)
	switch {
	case w.m.err != api.OK:
		return told{}
	case made == nil:
		return w.inferred(f)
	}
	if lift, ok := w.shaped(meta, api.Lift); ok {
		return w.got(node(api.Quo, made(goal{w.m, object, lift[0]}, f).t))
	}
	return made(w, f)
}

// guided is what makes a form's term by the type that it is to have; none, if
// the form tells its type by itself.
func (m *maker) guided(f api.Form) func(goal, api.Form) told {
	if f.Kind == api.FNum {
		return goal.number
	}
	if f.Kind != api.FList {
		return nil
	}
	w, ok := m.head(f.L)
	if !ok || w.bare && f.L[1].Kind != api.FName {
		return nil
	}
	return w.made
}

// inferred is a form's term as it is by itself, quoted or spliced where the
// goal is at the other stage.
func (w goal) inferred(f api.Form) told {
	x := w.m.infer(f)
	switch {
	case x.stage == w.stage:
		w.m.same(x.a, w.a)
		return w.got(x.t)
	case w.stage == object:
		x = w.m.coerced(x)
		w.m.same(x.a, w.a)
		return w.got(x.t)
	}
	c := w.m.mustBe(w.a, api.Lift, api.ErrStage)[0]
	w.m.same(x.a, c)
	return w.got(node(api.Quo, x.t))
}

// shaped tells whether the goal is at a stage, its type of an Op; that one's parts.
func (w goal) shaped(stage, op int) ([2]api.Tm, bool) {
	return parts(w.a), w.stage == stage && w.a.Op == op
}

// number makes a number's term.
func (w goal) number(f api.Form) told {
	if _, ok := w.shaped(meta, api.Nat); !ok {
		return w.inferred(f)
	}
	if f.N < 0 || f.N > api.MaxLit {
		return w.m.fail(api.ErrArg)
	}
	return w.got(numeral(f.N))
}

// function makes the term of (fn x b).
func (w goal) function(f api.Form) told {
	x, b := f.L[1].S, f.L[2]
	if pi, ok := w.shaped(meta, api.Pi); ok {
		to := goal{w.m, meta, pi[1]}
		return w.got(node(api.Lam, pi[0], w.m.below(to.check, b, programVar(x, pi[0])).t))
	}
	if fun, ok := w.shaped(object, api.TFun); ok {
		to := goal{w.m, object, farther(fun[1], 1)}
		return w.got(node(api.OLam, fun[0], w.m.below(to.check, b, codeVar(x, fun[0])).t))
	}
	return w.m.fail(api.ErrShape)
}

// pair makes the term of (pair x y).
func (w goal) pair(f api.Form) told {
	x, y := f.L[1], f.L[2]
	if sig, ok := w.shaped(meta, api.Sig); ok {
		a := goal{w.m, meta, sig[0]}.check(x)
		b := w.m.toBe(meta, put(sig[0], sig[1], a.t)).check(y)
		return w.got(node(api.Pair, w.a, a.t, b.t))
	}
	if pro, ok := w.shaped(object, api.TPro); ok {
		a := goal{w.m, object, pro[0]}.check(x)
		b := goal{w.m, object, pro[1]}.check(y)
		return w.got(node(api.OPair, a.t, b.t))
	}
	return w.m.fail(api.ErrShape)
}

// choice makes the term of (if c x y).
func (w goal) choice(f api.Form) told {
	if w.stage != object {
		return w.inferred(f)
	}
	c := w.m.toBeInt().check(f.L[1])
	x := w.check(f.L[2])
	y := w.check(f.L[3])
	return w.got(node(api.OIf, c.t, x.t, y.t))
}
