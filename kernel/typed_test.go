package kernel

import (
	"thyrsus/api"
	"thyrsus/term"
)

// kind is a plain type: of a number, of functions, of pairs, of quotations, of types.
type kind struct {
	op   int // api.Nat, api.Pi, api.Sig, api.Lift, api.Ty; of object code: api.TInt, api.TFun, api.TPro
	a, b *kind
}

// term is the type as a term, closed.
func (k *kind) term() api.Tm {
	x := of(k.op)
	for _, part := range []*kind{k.a, k.b} {
		if part != nil {
			x.Kids = append(x.Kids, part.term())
		}
	}
	return x
}

func (k *kind) same(l *kind) bool { return term.Same(k.term(), l.term()) }

// meta is any type of programs that run ahead; object: one of object code.
func (d *die) meta(deep int) *kind {
	if deep == 0 || d.of(3) == 0 {
		return &kind{op: api.Nat}
	}
	switch d.of(7) {
	case 0, 1:
		return &kind{api.Pi, d.meta(deep - 1), d.meta(deep - 1)}
	case 2, 3:
		return &kind{api.Sig, d.meta(deep - 1), d.meta(deep - 1)}
	case 4:
		return &kind{op: api.Ty}
	}
	return &kind{op: api.Lift, a: d.object(deep - 1)}
}

func (d *die) object(deep int) *kind {
	if deep == 0 || d.of(2) == 0 {
		return &kind{op: api.TInt}
	}
	return &kind{[]int{api.TFun, api.TPro}[d.of(2)], d.object(deep - 1), d.object(deep - 1)}
}

// known is a variable in scope, of a plain type.
type known struct {
	stage int
	is    *kind
}

// maker makes terms that have a type, in a scope: the last one nearest.
type maker struct {
	*die
	g []known
}

func (m maker) with(stage int, is *kind) maker {
	m.g = append(append([]known{}, m.g...), known{stage, is})
	return m
}

// context is the scope, each type written in some way.
func (m maker) context() ctx {
	var g ctx
	for _, x := range m.g {
		if x.stage == 1 {
			g = g.with(1, m.typeOf(x.is))
		} else {
			g = g.with(0, m.objectType(x.is))
		}
	}
	return g
}

// variable is one of a type; false: there is none.
func (m maker) variable(stage int, is *kind) (api.Tm, bool) {
	from := m.of(len(m.g) + 1)
	for k := range m.g {
		n := (from + k) % len(m.g)
		if x := m.g[len(m.g)-1-n]; x.stage == stage && x.is.same(is) {
			return v(n), true
		}
	}
	return api.Tm{}, false
}

// dressed is a type, or what becomes it by steps; of0 is its own type, of1 that one's.
func (m maker) dressed(x, of0, of1 api.Tm) api.Tm {
	switch m.of(7) {
	case 0:
		return app(lam(of0, v(0)), x)
	case 1:
		return fst(pairOf(sig(of0, of0), x, x))
	case 2:
		return rec(of0, x, v(0), num(m.of(3)))
	case 3:
		return app(lam(of1, lam(v(0), v(0))), of0, x)
	}
	return x
}

func (m maker) typeOf(is *kind) api.Tm { return m.dressed(is.term(), u(0), u(1)) }

func (m maker) objectType(is *kind) api.Tm { return m.dressed(is.term(), ty(), u(0)) }

// term is one of stage 1.
func (m maker) term(is *kind, deep int) api.Tm {
	if x, ok := m.variable(1, is); ok && (deep <= 0 || m.of(4) == 0) {
		return x
	}
	switch m.of(5) {
	case 0, 1:
		if deep > 0 {
			return m.used(is, deep-1)
		}
	case 2:
		if deep > 0 {
			return m.dependent(is, deep-1)
		}
	}
	return m.made(is, deep-1)
}

// made is a term as its type makes them.
func (m maker) made(is *kind, deep int) api.Tm {
	switch is.op {
	case api.Pi:
		return lam(m.typeOf(is.a), m.with(1, is.a).term(is.b, deep))
	case api.Sig:
		return pairOf(m.typeOf(is), m.term(is.a, deep), m.term(is.b, deep))
	case api.Lift:
		return quo(m.code(is.a, deep))
	case api.Ty:
		return m.objectType(m.object(2))
	}
	if deep < 0 || m.of(3) == 0 {
		return num(m.of(4))
	}
	return of(api.Suc, m.term(is, deep))
}

// used is a term that is a part of what another one makes.
func (m maker) used(is *kind, deep int) api.Tm {
	other := m.meta(1)
	switch m.of(4) {
	case 0:
		return app(m.term(&kind{api.Pi, other, is}, deep), m.term(other, deep))
	case 1:
		return fst(m.term(&kind{api.Sig, is, other}, deep))
	case 2:
		return snd(m.term(&kind{api.Sig, other, is}, deep))
	}
	number := &kind{op: api.Nat}
	return rec(m.typeOf(is), m.term(is, deep), m.with(1, number).with(1, is).term(is, deep), m.term(number, deep))
}

// dependent is a term whose type is told by one of its parts: a function's
// argument, a pair's first part, a number.
func (m maker) dependent(is *kind, deep int) api.Tm {
	a, x := is.term(), m.term(is, deep)
	switch m.of(5) {
	case 0:
		return app(lam(u(0), lam(v(0), v(0))), m.typeOf(is), x)
	case 1:
		return snd(pairOf(sig(u(0), v(0)), m.typeOf(is), x))
	case 2:
		return app(lam(pi(u(0), pi(v(0), v(1))), app(v(0), a, skipped(x))), lam(u(0), lam(v(0), v(0))))
	case 3: // of Nat at Zero, of this type from 1 on
		n := m.term(&kind{op: api.Nat}, deep)
		return rec(rec(u(0), nat(), a, v(0)), zero(), term.Shift(x, 2, 0), of(api.Suc, n))
	}
	// as many arguments as a number tells, and the same ones given
	n := m.of(3)
	f := rec(rec(u(0), a, pi(nat(), v(1)), v(0)), x, lam(nat(), v(1)), num(n))
	for range n {
		f = app(f, m.term(&kind{op: api.Nat}, 0))
	}
	return f
}

// code is a term of stage 0.
func (m maker) code(is *kind, deep int) api.Tm {
	if x, ok := m.variable(0, is); ok && (deep <= 0 || m.of(3) == 0) {
		return x
	}
	if deep > 0 && m.of(3) == 0 {
		return spl(m.term(&kind{op: api.Lift, a: is}, deep-1))
	}
	if deep > 0 && m.of(3) == 0 {
		return m.codeUsed(is, deep-1)
	}
	switch is.op {
	case api.TFun:
		return oLam(m.objectType(is.a), m.with(0, is.a).code(is.b, deep-1))
	case api.TPro:
		return oPair(m.code(is.a, deep-1), m.code(is.b, deep-1))
	}
	if deep <= 0 {
		return i(m.of(9) - 4)
	}
	return numbered(api.OPrim, m.of(5), m.code(is, deep-1), m.code(is, deep-1))
}

func (m maker) codeUsed(is *kind, deep int) api.Tm {
	other, number := m.object(1), &kind{op: api.TInt}
	switch m.of(6) {
	case 0:
		return oApp(m.code(&kind{api.TFun, other, is}, deep), m.code(other, deep))
	case 1:
		return of(api.OFst, m.code(&kind{api.TPro, is, other}, deep))
	case 2:
		return of(api.OSnd, m.code(&kind{api.TPro, other, is}, deep))
	case 3:
		return oLet(m.code(other, deep), m.with(0, other).code(is, deep))
	case 4:
		return oFix(m.objectType(is), m.with(0, is).code(is, deep))
	}
	return oIf(m.code(number, deep), m.code(is, deep), m.code(is, deep))
}

// scoped has some variables in scope.
func (d *die) scoped() maker {
	m := maker{die: d}
	for range d.of(6) {
		if d.of(3) == 0 {
			m = m.with(0, d.object(1))
		} else {
			m = m.with(1, d.meta(2))
		}
	}
	return m
}

// sample is a term in a context, at a stage.
type sample struct {
	g     ctx
	stage int
	x     api.Tm
}

// plainSample is one that has a type, told beside it; false: it is too great.
func plainSample(seed uint64) (sample, api.Tm, bool) {
	d := &die{seed}
	m := d.scoped()
	g, deep := m.context(), 1+d.of(5)
	var s sample
	var a api.Tm
	if d.of(3) == 0 {
		is := d.object(2)
		s, a = sample{g, 0, m.code(is, deep)}, is.term()
	} else {
		is := d.meta(2)
		s, a = sample{g, 1, m.term(is, deep)}, is.term()
	}
	return s, a, term.Check(s.x) == api.OK && term.Size(s.x) < 400
}

// plainSamples are some of those.
func plainSamples(seed uint64, n int) []sample {
	var l []sample
	for k := range n {
		if s, _, ok := plainSample(seed + uint64(k)); ok {
			l = append(l, s)
		}
	}
	return l
}

// handMade are those in whose types values stand.
func handMade() []sample {
	var l []sample
	for _, r := range rows() {
		l = append(l, sample{room(), r.stage, r.node})
	}
	for _, x := range typed() {
		l = append(l, sample{room(), x.stage, x.x})
	}
	g := room().with(1, app(v(5), zero()))
	g = g.with(1, pi(nat(), pi(app(v(7), v(0)), app(v(8), of(api.Suc, v(1))))))
	induction := rec(app(v(8), v(0)), v(1), app(v(2), v(1), v(0)), add(v(9), num(2)))
	counted := rec(rec(u(0), nat(), pi(nat(), v(1)), v(0)), num(4), lam(nat(), v(1)), num(3))
	power := lam(nat(), lam(lift(whole()), rec(lift(whole()), quo(i(1)), quo(numbered(api.OPrim, api.PMul, spl(v(2)), spl(v(0)))), v(1))))
	church := pi(u(0), pi(pi(v(0), v(1)), pi(v(1), v(2))))
	two := lam(u(0), lam(pi(v(0), v(1)), lam(v(1), app(v(1), app(v(1), v(0))))))
	swap := lam(u(0), lam(u(0), lam(sig(v(1), v(1)), pairOf(sig(v(1), v(3)), snd(v(0)), fst(v(0))))))
	some := pairOf(sig(u(0), sig(v(0), pi(v(1), nat()))), sig(nat(), nat()), pairOf(sig(sig(nat(), nat()), pi(sig(nat(), nat()), nat())), pairOf(sig(nat(), nat()), num(1), num(2)), lam(sig(nat(), nat()), snd(v(0)))))
	l = append(l, sample{g, 1, induction}, sample{g, 1, lam(nat(), rec(app(v(9), v(0)), v(2), app(v(3), v(1), v(0)), v(0)))})
	l = append(l, sample{nil, 1, counted}, sample{nil, 1, app(counted, num(1))}, sample{nil, 1, power}, sample{nil, 1, app(power, num(3))}, sample{nil, 1, swap}, sample{nil, 1, some})
	l = append(l, sample{nil, 1, two}, sample{nil, 1, church}, sample{nil, 1, lam(church, app(v(0), nat(), lam(nat(), of(api.Suc, v(0))), zero()))}, sample{nil, 1, fst(fst(snd(some)))})
	l = append(l, sample{nil, 1, app(snd(snd(some)), fst(snd(some)))}, sample{nil, 0, oLam(whole(), spl(app(power, num(3), quo(v(0)))))})
	f := tFun(whole(), whole())
	l = append(l, sample{nil, 0, oFix(f, oLam(whole(), oIf(v(0), oApp(v(1), plus(v(0), i(-1))), i(1))))})
	beside := rec(app(v(3), v(0), v(1)), app(v(1), zero(), v(0)), app(v(3), of(api.Suc, v(1)), v(2)), add(v(0), v(0)))
	l = append(l, sample{besides(), 1, beside}, sample{besides(), 1, app(lam(nat(), skipped(beside)), num(2))})
	return append(l, scopedSamples()...)
}

// scopedSamples are those whose types name variables of object code.
func scopedSamples() []sample {
	var l []sample
	for _, x := range []api.Tm{
		made(0, oApp(v(0), v(1))), oLet(v(1), made(1, v(2))), oLam(whole(), made(1, v(2))), oLam(whole(), oPair(v(0), made(1, v(2)))),
		oLet(made(0, i(1)), oLam(whole(), oPair(v(1), made(2, v(3))))), oLam(app(v(3), quo(v(1))), oLet(v(0), oPair(v(0), v(1)))),
		spl(app(lam(lift(whole()), quo(made(1, spl(v(0))))), quo(v(1)))), oFix(tFun(whole(), app(v(3), quo(v(1)))), oLam(whole(), made(2, v(3)))),
	} {
		l = append(l, sample{scoped(), 0, x})
	}
	return l
}

// mutated is a term with one of its nodes being another one.
func (d *die) mutated(x api.Tm) api.Tm {
	at := d.of(term.Size(x))
	return d.replacedAt(x, &at)
}

func (d *die) replacedAt(x api.Tm, at *int) api.Tm {
	if *at == 0 {
		*at--
		return d.instead(x)
	}
	*at--
	x.Kids = append([]api.Tm{}, x.Kids...)
	for k := range x.Kids {
		if *at >= 0 {
			x.Kids[k] = d.replacedAt(x.Kids[k], at)
		}
	}
	return x
}

// instead is what stands in x's place: another variable, a kid, some term, or a node of another Op.
func (d *die) instead(x api.Tm) api.Tm {
	some := []api.Tm{nat(), zero(), num(2), whole(), ty(), u(0), u(1), u(2), i(1), quo(i(1)), lift(whole()), lam(nat(), v(0)), oLam(whole(), v(0)), oPair(i(1), i(2)), pairOf(sig(nat(), nat()), zero(), zero())}
	n := len(x.Kids)
	switch d.of(5) {
	case 0:
		return v(d.of(8))
	case 1:
		if n > 0 {
			return x.Kids[d.of(n)]
		}
	case 2:
		if n > 0 {
			var ops []int
			for op := range api.Spl + 1 {
				if k, ok := kidsByOp()[op]; ok && k == n {
					ops = append(ops, op)
				}
			}
			return of(ops[d.of(len(ops))], x.Kids...)
		}
		return v(max(0, x.N+d.of(5)-2))
	case 3:
		if n > 1 {
			a, b := d.of(n), d.of(n)
			return replaced(replaced(x, a, x.Kids[b]), b, x.Kids[a])
		}
	}
	return some[d.of(len(some))]
}
