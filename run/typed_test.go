package run

import (
	"math"
	"slices"

	"thyrsus/api"
	"thyrsus/term"
)

// anyType is some type.
func (d *die) anyType(deep int) api.Tm {
	if deep == 0 || d.of(2) == 0 {
		return whole()
	}
	return of([]int{api.TFun, api.TPro}[d.of(2)], d.anyType(deep-1), d.anyType(deep-1))
}

// maker makes plain code that has a type, in a scope: the last one nearest.
type maker struct {
	*die
	g []api.Tm
}

func (m maker) with(l ...api.Tm) maker {
	m.g = append(slices.Clone(m.g), l...)
	return m
}

// variable is one of a type; false: there is none.
func (m maker) variable(a api.Tm) (api.Tm, bool) {
	from := m.of(len(m.g) + 1)
	for k := range m.g {
		n := (from + k) % len(m.g)
		if term.Same(m.g[len(m.g)-1-n], a) {
			return v(n), true
		}
	}
	return api.Tm{}, false
}

// code is a term of a type.
func (m maker) code(a api.Tm, deep int) api.Tm {
	if x, ok := m.variable(a); ok && (deep <= 0 || m.of(3) == 0) {
		return x
	}
	if deep > 0 && m.of(3) > 0 {
		return m.used(a, deep-1)
	}
	switch {
	case a.Op == api.TFun:
		return oLam(a.Kids[0], m.with(a.Kids[0]).code(a.Kids[1], deep-1))
	case a.Op == api.TPro:
		return oPair(m.code(a.Kids[0], deep-1), m.code(a.Kids[1], deep-1))
	case deep <= 0:
		return m.number()
	}
	return prim(m.of(5), m.code(a, deep-1), m.code(a, deep-1))
}

// number is a small one, or one near an end.
func (m maker) number() api.Tm {
	if m.of(6) > 0 {
		return i(m.of(9) - 4)
	}
	return i([]int{math.MinInt, math.MaxInt, 1 << 32, -1 << 40, math.MinInt + 1}[m.of(5)])
}

// used is what is made of terms of other types.
func (m maker) used(a api.Tm, deep int) api.Tm {
	other := m.anyType(1)
	switch m.of(8) {
	case 0, 1:
		return oApp(m.code(tFun(other, a), deep), m.code(other, deep))
	case 2:
		return oFst(m.code(tPro(a, other), deep))
	case 3:
		return oSnd(m.code(tPro(other, a), deep))
	case 4:
		return oLet(m.code(other, deep), m.with(other).code(a, deep))
	case 5:
		if m.of(3) == 0 { // most of them have no end
			return oFix(a, m.with(a).code(a, deep))
		}
	case 6:
		return m.turns(a, deep)
	}
	return oIf(m.code(whole(), deep), m.code(a, deep), m.code(a, deep))
}

// turns is a call of a function that calls itself some times, with one less each time.
func (m maker) turns(a api.Tm, deep int) api.Tm {
	inner := m.with(tFun(whole(), a), whole())
	again := oApp(v(1), minus(v(0), i(1)))
	turn := oIf(inner.code(whole(), 1), again, inner.code(a, deep))
	if m.of(2) == 0 {
		turn = oLet(again, inner.with(a).code(a, deep))
	}
	return oApp(oFix(tFun(whole(), a), oLam(whole(), oIf(v(0), turn, inner.code(a, deep)))), i(m.of(6)))
}

// typed is closed plain code; false: it is too great.
func typed(seed uint64) (api.Tm, bool) {
	d := &die{seed * 2654435761}
	a := d.anyType(2)
	x := maker{die: d}.code(a, 1+d.of(7))
	return x, term.Check(x) == api.OK && term.Size(x) < 600
}

// mutated is a term with one of its nodes being another one.
func (d *die) mutated(x api.Tm) api.Tm {
	at := d.of(term.Size(x))
	return d.replacedAt(x, &at)
}

func (d *die) replacedAt(x api.Tm, at *int) api.Tm {
	if *at == 0 {
		*at--
		return d.instead(x)
	}
	*at--
	x.Kids = slices.Clone(x.Kids)
	for k := range x.Kids {
		if *at >= 0 {
			x.Kids[k] = d.replacedAt(x.Kids[k], at)
		}
	}
	return x
}

// instead is what stands in x's place: another variable, a kid, some term, or a node of another Op.
func (d *die) instead(x api.Tm) api.Tm {
	some := []api.Tm{nat(), num(2), whole(), f(), p(), ty(), u(0), i(0), quo(i(1)), spl(quo(i(1))), lam(nat(), v(0)), oLam(whole(), v(0)), oPair(i(1), i(2)), oFix(f(), v(0)), oLet(i(1), v(0))}
	n := len(x.Kids)
	switch d.of(5) {
	case 0:
		return v(d.of(8))
	case 1:
		if n > 0 {
			return x.Kids[d.of(n)]
		}
	case 2:
		if n > 0 {
			return of(d.opOf(n), x.Kids...)
		}
		return v(max(0, x.N+d.of(5)-2))
	case 3:
		if n > 1 {
			a, b := d.of(n), d.of(n)
			return replaced(replaced(x, a, x.Kids[b]), b, x.Kids[a])
		}
	}
	return some[d.of(len(some))]
}

// opOf is an Op of so many kids.
func (d *die) opOf(n int) int {
	var ops []int
	for _, op := range inOrder() {
		if kidsByOp()[op] == n {
			ops = append(ops, op)
		}
	}
	return ops[d.of(len(ops))]
}
