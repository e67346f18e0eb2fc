package stage

import (
	"thyrsus/api"
	"thyrsus/term"
)

// kind is a plain type: of a number, of functions, of pairs, of quotations, of types.
type kind struct {
	op   int // api.Nat, api.Pi, api.Sig, api.Lift, api.Ty; of object code: api.TInt, api.TFun, api.TPro
	a, b *kind
}

// term is the type as a term, closed.
func (k *kind) term() api.Tm {
	x := of(k.op)
	for _, part := range []*kind{k.a, k.b} {
		if part != nil {
			x.Kids = append(x.Kids, part.term())
		}
	}
	return x
}

func (k *kind) same(l *kind) bool { return term.Same(k.term(), l.term()) }

// meta is any type of programs that run ahead; object: one of object code.
func (d *die) meta(deep int) *kind {
	if deep == 0 || d.of(3) == 0 {
		return &kind{op: api.Nat}
	}
	switch d.of(7) {
	case 0, 1:
		return &kind{api.Pi, d.meta(deep - 1), d.meta(deep - 1)}
	case 2, 3:
		return &kind{api.Sig, d.meta(deep - 1), d.meta(deep - 1)}
	case 4:
		return &kind{op: api.Ty}
	}
	return &kind{op: api.Lift, a: d.object(deep - 1)}
}

func (d *die) object(deep int) *kind {
	if deep == 0 || d.of(2) == 0 {
		return &kind{op: api.TInt}
	}
	return &kind{[]int{api.TFun, api.TPro}[d.of(2)], d.object(deep - 1), d.object(deep - 1)}
}

// known is a variable in scope, of a plain type.
type known struct {
	stage int
	is    *kind
}

// maker makes terms that have a type, in a scope: the last one nearest.
type maker struct {
	*die
	g []known
}

func (m maker) with(stage int, is *kind) maker {
	m.g = append(append([]known{}, m.g...), known{stage, is})
	return m
}

// variable is one of a type; false: there is none.
func (m maker) variable(stage int, is *kind) (api.Tm, bool) {
	from := m.of(len(m.g) + 1)
	for k := range m.g {
		n := (from + k) % len(m.g)
		if x := m.g[len(m.g)-1-n]; x.stage == stage && x.is.same(is) {
			return v(n), true
		}
	}
	return api.Tm{}, false
}

// dressed is a type, or what becomes it by steps; of0 is its own type, of1 that one's.
func (m maker) dressed(x, of0, of1 api.Tm) api.Tm {
	switch m.of(7) {
	case 0:
		return app(lam(of0, v(0)), x)
	case 1:
		return fst(pairOf(sig(of0, of0), x, x))
	case 2:
		return rec(of0, x, v(0), num(m.of(3)))
	case 3:
		return app(lam(of1, lam(v(0), v(0))), of0, x)
	}
	return x
}

func (m maker) typeOf(is *kind) api.Tm { return m.dressed(is.term(), u(0), u(1)) }

func (m maker) objectType(is *kind) api.Tm { return m.dressed(is.term(), ty(), u(0)) }

// term is one of stage 1.
func (m maker) term(is *kind, deep int) api.Tm {
	if x, ok := m.variable(1, is); ok && (deep <= 0 || m.of(4) == 0) {
		return x
	}
	switch m.of(5) {
	case 0, 1:
		if deep > 0 {
			return m.used(is, deep-1)
		}
	case 2:
		if deep > 0 {
			return m.dependent(is, deep-1)
		}
	}
	return m.made(is, deep-1)
}

// made is a term as its type makes them.
func (m maker) made(is *kind, deep int) api.Tm {
	switch is.op {
	case api.Pi:
		return lam(m.typeOf(is.a), m.with(1, is.a).term(is.b, deep))
	case api.Sig:
		return pairOf(m.typeOf(is), m.term(is.a, deep), m.term(is.b, deep))
	case api.Lift:
		return quo(m.code(is.a, deep))
	case api.Ty:
		return m.objectType(m.object(2))
	}
	if deep < 0 || m.of(3) == 0 {
		return num(m.of(4))
	}
	return of(api.Suc, m.term(is, deep))
}

// used is a term that is a part of what another one makes.
func (m maker) used(is *kind, deep int) api.Tm {
	other := m.meta(1)
	switch m.of(4) {
	case 0:
		return app(m.term(&kind{api.Pi, other, is}, deep), m.term(other, deep))
	case 1:
		return fst(m.term(&kind{api.Sig, is, other}, deep))
	case 2:
		return snd(m.term(&kind{api.Sig, other, is}, deep))
	}
	number := &kind{op: api.Nat}
	return rec(m.typeOf(is), m.term(is, deep), m.with(1, number).with(1, is).term(is, deep), m.term(number, deep))
}

// dependent is a term whose type is told by one of its parts: a function's
// argument, a pair's first part, a number.
func (m maker) dependent(is *kind, deep int) api.Tm {
	a, x := is.term(), m.term(is, deep)
	switch m.of(5) {
	case 0:
		return app(lam(u(0), lam(v(0), v(0))), m.typeOf(is), x)
	case 1:
		return snd(pairOf(sig(u(0), v(0)), m.typeOf(is), x))
	case 2:
		return app(lam(pi(u(0), pi(v(0), v(1))), app(v(0), a, skipped(x))), lam(u(0), lam(v(0), v(0))))
	case 3: // of Nat at Zero, of this type from 1 on
		n := m.term(&kind{op: api.Nat}, deep)
		return rec(rec(u(0), nat(), a, v(0)), zero(), term.Shift(x, 2, 0), of(api.Suc, n))
	}
	// as many arguments as a number tells, and the same ones given
	n := m.of(3)
	f := rec(rec(u(0), a, pi(nat(), v(1)), v(0)), x, lam(nat(), v(1)), num(n))
	for range n {
		f = app(f, m.term(&kind{op: api.Nat}, 0))
	}
	return f
}

// code is a term of stage 0.
func (m maker) code(is *kind, deep int) api.Tm {
	if x, ok := m.variable(0, is); ok && (deep <= 0 || m.of(3) == 0) {
		return x
	}
	if deep > 0 && m.of(3) == 0 {
		return spl(m.term(&kind{op: api.Lift, a: is}, deep-1))
	}
	if deep > 0 && m.of(3) == 0 {
		return m.codeUsed(is, deep-1)
	}
	switch is.op {
	case api.TFun:
		return oLam(m.objectType(is.a), m.with(0, is.a).code(is.b, deep-1))
	case api.TPro:
		return oPair(m.code(is.a, deep-1), m.code(is.b, deep-1))
	}
	if deep <= 0 {
		return i(m.of(9) - 4)
	}
	return numbered(api.OPrim, m.of(5), m.code(is, deep-1), m.code(is, deep-1))
}

func (m maker) codeUsed(is *kind, deep int) api.Tm {
	other, number := m.object(1), &kind{op: api.TInt}
	switch m.of(6) {
	case 0:
		return oApp(m.code(&kind{api.TFun, other, is}, deep), m.code(other, deep))
	case 1:
		return of(api.OFst, m.code(&kind{api.TPro, is, other}, deep))
	case 2:
		return of(api.OSnd, m.code(&kind{api.TPro, other, is}, deep))
	case 3:
		return oLet(m.code(other, deep), m.with(0, other).code(is, deep))
	case 4:
		return oFix(m.objectType(is), m.with(0, is).code(is, deep))
	}
	return oIf(m.code(number, deep), m.code(is, deep), m.code(is, deep))
}

// typed is a term that has a type at stage 0 among no variables, told beside it;
// false: it is too great.
func typed(seed uint64) (api.Tm, api.Tm, bool) {
	d := &die{seed}
	is := d.object(2)
	x := maker{die: d}.code(is, 2+d.of(5))
	return x, is.term(), term.Check(x) == api.OK && term.Size(x) < 600
}

// manyTyped are some of those in which something is spliced.
func manyTyped(seed uint64, n int) []api.Tm {
	var l []api.Tm
	for ; len(l) < n; seed++ {
		if x, _, ok := typed(seed); ok && len(metas(x)) > 0 {
			l = append(l, x)
		}
	}
	return l
}

// mutated is a term with one of its nodes being another one.
func (d *die) mutated(x api.Tm) api.Tm {
	at := d.of(term.Size(x))
	return d.replacedAt(x, &at)
}

func (d *die) replacedAt(x api.Tm, at *int) api.Tm {
	if *at == 0 {
		*at--
		return d.instead(x)
	}
	*at--
	x.Kids = append([]api.Tm{}, x.Kids...)
	for k := range x.Kids {
		if *at >= 0 {
			x.Kids[k] = d.replacedAt(x.Kids[k], at)
		}
	}
	return x
}

// instead is what stands in x's place: another variable, a kid, some term, or a node of another Op.
func (d *die) instead(x api.Tm) api.Tm {
	some := []api.Tm{nat(), zero(), num(2), whole(), ty(), u(0), u(1), u(2), i(1), quo(i(1)), lift(whole()), lam(nat(), v(0)), oLam(whole(), v(0)), oPair(i(1), i(2)), pairOf(sig(nat(), nat()), zero(), zero())}
	n := len(x.Kids)
	switch d.of(5) {
	case 0:
		return v(d.of(8))
	case 1:
		if n > 0 {
			return x.Kids[d.of(n)]
		}
	case 2:
		if n > 0 {
			var ops []int
			for op := range api.Spl + 1 {
				if k, ok := kidsByOp()[op]; ok && k == n {
					ops = append(ops, op)
				}
			}
			return of(ops[d.of(len(ops))], x.Kids...)
		}
		return v(max(0, x.N+d.of(5)-2))
	case 3:
		if n > 1 {
			a, b := d.of(n), d.of(n)
			return replaced(replaced(x, a, x.Kids[b]), b, x.Kids[a])
		}
	}
	return some[d.of(len(some))]
}
