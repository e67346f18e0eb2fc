package conv

import (
	"thyrsus/api"
	"thyrsus/term"
)

// kind is a plain type: of a number, of functions, of pairs, of quotations.
type kind struct {
	op   int // api.Nat, api.Pi, api.Sig, api.Lift; of object code: api.TInt, api.TFun, api.TPro
	a, b *kind
}

// term is the type as a term, closed.
func (k *kind) term() api.Tm {
	x := of(k.op)
	for _, part := range []*kind{k.a, k.b} {
		if part != nil {
			x.Kids = append(x.Kids, part.term())
		}
	}
	return x
}

func (k *kind) same(l *kind) bool { return term.Same(k.term(), l.term()) }

// meta is any type of programs that run ahead; object: one of object code.
func (d *die) meta(deep int) *kind {
	if deep == 0 || d.of(3) == 0 {
		return &kind{op: api.Nat}
	}
	switch d.of(3) {
	case 0:
		return &kind{api.Pi, d.meta(deep - 1), d.meta(deep - 1)}
	case 1:
		return &kind{api.Sig, d.meta(deep - 1), d.meta(deep - 1)}
	}
	return &kind{op: api.Lift, a: d.object(deep - 1)}
}

func (d *die) object(deep int) *kind {
	if deep == 0 || d.of(2) == 0 {
		return &kind{op: api.TInt}
	}
	return &kind{[]int{api.TFun, api.TPro}[d.of(2)], d.object(deep - 1), d.object(deep - 1)}
}

// known is a variable in scope.
type known struct {
	stage int
	is    *kind
}

// maker makes terms of a type, in a scope: the last one nearest. With a die for
// changes it makes the same ones, some of their parts being others, but equal.
type maker struct {
	*die
	g       []known
	changes *die
}

func (m maker) with(stage int, is *kind) maker {
	m.g = append(append([]known{}, m.g...), known{stage, is})
	return m
}

// variable is one of a type; false: there is none.
func (m maker) variable(stage int, is *kind) (api.Tm, bool) {
	from := m.of(len(m.g) + 1)
	for k := range m.g {
		n := (from + k) % len(m.g)
		if x := m.g[len(m.g)-1-n]; x.stage == stage && x.is.same(is) {
			return v(n), true
		}
	}
	return api.Tm{}, false
}

// dressed is a type, or what becomes it by steps.
func (m maker) dressed(x api.Tm, of0 api.Tm) api.Tm {
	switch m.of(6) {
	case 0:
		return app(lam(of0, v(0)), x)
	case 1:
		return fst(pairOf(sig(of0, of0), x, x))
	case 2:
		return rec(of0, x, v(0), num(m.of(3)))
	}
	return x
}

func (m maker) typeOf(is *kind) api.Tm { return m.dressed(is.term(), u(0)) }

func (m maker) objectType(is *kind) api.Tm { return m.dressed(is.term(), of(api.Ty)) }

// changed is x, or what is equal to it.
func (m maker) changed(is *kind, x api.Tm) api.Tm {
	if m.changes == nil || term.Size(x) > 200 {
		return x
	}
	switch a, n := is.term(), m.changes.of(3); m.changes.of(24) {
	case 0:
		return app(lam(a, v(0)), x)
	case 1:
		return app(lam(nat(), term.Shift(x, 1, 0)), num(n))
	case 2:
		return fst(pairOf(sig(a, nat()), x, num(n)))
	case 3:
		return snd(pairOf(sig(nat(), a), num(n), x))
	case 4:
		return rec(a, x, v(0), num(n))
	case 5:
		return rec(a, x, term.Shift(x, 2, 0), num(n))
	case 6, 7, 8, 9:
		return widened(is, x)
	}
	return x
}

// widened is eta's of x, or that of quotations.
func widened(is *kind, x api.Tm) api.Tm {
	switch is.op {
	case api.Pi:
		return lam(is.a.term(), app(term.Shift(x, 1, 0), v(0)))
	case api.Sig:
		return pairOf(is.term(), fst(x), snd(x))
	case api.Lift:
		return quo(spl(x))
	}
	return x
}

// term is one of stage 1.
func (m maker) term(is *kind, deep int) api.Tm { return m.changed(is, m.plain(is, deep)) }

func (m maker) plain(is *kind, deep int) api.Tm {
	if x, ok := m.variable(1, is); ok && (deep <= 0 || m.of(4) == 0) {
		return x
	}
	if deep <= 0 || m.of(2) == 0 {
		return m.made(is, deep-1)
	}
	return m.used(is, deep-1)
}

// made is a term as its type makes them.
func (m maker) made(is *kind, deep int) api.Tm {
	switch is.op {
	case api.Pi:
		return lam(m.typeOf(is.a), m.with(1, is.a).term(is.b, deep))
	case api.Sig:
		return pairOf(m.typeOf(is), m.term(is.a, deep), m.term(is.b, deep))
	case api.Lift:
		return quo(m.code(is.a, deep))
	}
	if deep < 0 || m.of(3) == 0 {
		return num(m.of(4))
	}
	return of(api.Suc, m.term(is, deep))
}

// used is a term that is a part of what another one makes.
func (m maker) used(is *kind, deep int) api.Tm {
	other := m.meta(1)
	switch m.of(4) {
	case 0:
		return app(m.term(&kind{api.Pi, other, is}, deep), m.term(other, deep))
	case 1:
		return fst(m.term(&kind{api.Sig, is, other}, deep))
	case 2:
		return snd(m.term(&kind{api.Sig, other, is}, deep))
	}
	number := &kind{op: api.Nat}
	return rec(m.typeOf(is), m.term(is, deep), m.with(1, number).with(1, is).term(is, deep), m.term(number, deep))
}

func (m maker) plainCode(is *kind, deep int) api.Tm {
	if x, ok := m.variable(0, is); ok && (deep <= 0 || m.of(3) == 0) {
		return x
	}
	if deep > 0 && m.of(3) == 0 {
		return spl(m.term(&kind{op: api.Lift, a: is}, deep-1))
	}
	if deep > 0 && m.of(3) == 0 {
		return m.codeUsed(is, deep-1)
	}
	switch is.op {
	case api.TFun:
		return of(api.OLam, m.objectType(is.a), m.with(0, is.a).code(is.b, deep-1))
	case api.TPro:
		return of(api.OPair, m.code(is.a, deep-1), m.code(is.b, deep-1))
	}
	if deep <= 0 {
		return i(m.of(9) - 4)
	}
	return numbered(api.OPrim, m.of(5), m.code(is, deep-1), m.code(is, deep-1))
}

func (m maker) codeUsed(is *kind, deep int) api.Tm {
	other, number := m.object(1), &kind{op: api.TInt}
	switch m.of(6) {
	case 0:
		return of(api.OApp, m.code(&kind{api.TFun, other, is}, deep), m.code(other, deep))
	case 1:
		return of(api.OFst, m.code(&kind{api.TPro, is, other}, deep))
	case 2:
		return of(api.OSnd, m.code(&kind{api.TPro, other, is}, deep))
	case 3:
		return of(api.OLet, m.code(other, deep), m.with(0, other).code(is, deep))
	case 4:
		return of(api.OFix, m.objectType(is), m.with(0, is).code(is, deep))
	}
	return of(api.OIf, m.code(number, deep), m.code(is, deep), m.code(is, deep))
}

// code is a term of stage 0.
func (m maker) code(is *kind, deep int) api.Tm {
	x := m.plainCode(is, deep)
	if m.changes != nil && m.changes.of(6) == 0 {
		return spl(quo(x))
	}
	return x
}

// scoped has some variables in scope.
func (d *die) scoped() maker {
	m := maker{die: d}
	for range d.of(6) {
		if d.of(3) == 0 {
			m = m.with(0, d.object(1))
		} else {
			m = m.with(1, d.meta(2))
		}
	}
	return m
}

// families are rows of terms, all of one type in one context, those of one row
// being equal: the first one of it as it was made, the others with changes.
func families(seed uint64, rows, each int) [][]api.Tm {
	d := &die{seed}
	m := d.scoped()
	is := d.meta(2)
	var l [][]api.Tm
	for range rows {
		deep, start := 1+d.of(5), *d
		row := []api.Tm{m.term(is, deep)}
		for k := range each - 1 {
			same := start
			twin := maker{&same, m.g, &die{seed + 1000*uint64(k+1)}}
			row = append(row, twin.term(is, deep))
		}
		l = append(l, row)
	}
	return l
}
