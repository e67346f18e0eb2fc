package norm

import (
	"thyrsus/api"
	"thyrsus/term"
)

// gauge counts nodes: what is no term may hold itself.
type gauge struct{ nodes int }

// takes tells whether t is no greater than a normal form may be. It may call
// itself, as shrink may: MaxDeep bounds how far.
func (g *gauge) takes(t api.Tm, deep int) bool {
	g.nodes++
	if g.nodes > api.MaxNodes || deep > api.MaxDeep {
		return false
	}
	for _, kid := range t.Kids {
		if !g.takes(kid, deep+1) {
			return false
		}
	}
	return true
}

// is tells whether t is of an Op, made as that must be.
func is(t api.Tm, op, kids int) bool { return t.Op == op && len(t.Kids) == kids }

// shrink takes away what eta does, from the inside out.
func shrink(t api.Tm) api.Tm {
	out := api.Tm{Op: t.Op, N: t.N}
	if len(t.Kids) == 0 {
		return out
	}
	out.Kids = make([]api.Tm, len(t.Kids))
	for i, kid := range t.Kids {
		out.Kids[i] = shrink(kid)
	}
	switch {
	case is(out, api.Lam, 2):
		return function(out)
	case is(out, api.Pair, 3):
		return pair(out)
	}
	return out
}

// function is a Lam without its type, or what it only hands its argument to.
func function(t api.Tm) api.Tm {
	t.Kids[0] = api.Tm{Op: api.Zero}
	b := t.Kids[1]
	if !is(b, api.App, 2) || !is(b.Kids[1], api.Var, 0) || b.Kids[1].N != 0 {
		return t
	}
	if f := b.Kids[0]; !term.Free(f, 0) {
		return term.Subst(f, 0, api.Tm{Op: api.Zero}) // in nobody's place: all others are one less
	}
	return t
}

// pair is a Pair without its Sig, or what both its parts are of.
func pair(t api.Tm) api.Tm {
	t.Kids[0] = api.Tm{Op: api.Zero}
	a, b := t.Kids[1], t.Kids[2]
	if is(a, api.Fst, 1) && is(b, api.Snd, 1) && term.Same(a.Kids[0], b.Kids[0]) {
		return a.Kids[0]
	}
	return t
}
