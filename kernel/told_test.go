package kernel

import (
	"slices"
	"testing"

	"thyrsus/api"
	"thyrsus/conv"
	"thyrsus/norm"
	"thyrsus/term"
)

// told is a second telling of chapter 7: each call has its own copy of the
// context, nothing is kept, and terms are put in place at once.
type told []api.Var1

func (g told) with(stage int, a api.Tm) told {
	return append(slices.Clone(g), api.Var1{Stage: stage, T: a})
}

func (g told) infer(stage int, t api.Tm) (api.Tm, api.Errno) {
	if t.Op != api.Var && (stage == 1) != (t.Op < api.OLam) {
		return api.Tm{}, api.ErrStage
	}
	a, e := g.rule(stage, t)
	if e == api.OK {
		a, e = norm.Normal(a)
	}
	if e != api.OK {
		return api.Tm{}, e
	}
	return a, api.OK
}

func (g told) check(stage int, t, a api.Tm) api.Errno {
	b, e := g.infer(stage, t)
	if e != api.OK {
		return e
	}
	is, e := conv.Equal(b, a)
	if e == api.OK && !is {
		e = api.ErrType
	}
	return e
}

// all are checked one after the other: each a function that tells an error.
func all(l ...func() api.Errno) api.Errno {
	for _, f := range l {
		if e := f(); e != api.OK {
			return e
		}
	}
	return api.OK
}

func (g told) is(stage int, t, a api.Tm) func() api.Errno {
	return func() api.Errno { return g.check(stage, t, a) }
}

// has tells t's type into a, ErrShape if it has not the Op (0: any).
func (g told) has(stage int, t api.Tm, op int, a *api.Tm) func() api.Errno {
	return func() api.Errno {
		b, e := g.infer(stage, t)
		if e == api.OK && op != 0 && b.Op != op {
			e = api.ErrShape
		}
		*a = b
		return e
	}
}

func (g told) variable(stage, n int) (api.Tm, api.Errno) {
	if n >= len(g) {
		return api.Tm{}, api.ErrName
	}
	x := g[len(g)-1-n]
	if x.Stage != stage {
		return api.Tm{}, api.ErrStage
	}
	for range n + 1 {
		x.T = term.Shift(x.T, 1, 0)
	}
	return x.T, api.OK
}

func (g told) rule(stage int, t api.Tm) (api.Tm, api.Errno) {
	var k [4]api.Tm
	copy(k[:], t.Kids)
	var a, b api.Tm
	var e api.Errno
	switch t.Op {
	case api.Var:
		return g.variable(stage, t.N)
	case api.U:
		if t.N == 2 {
			return api.Tm{}, api.ErrLevel
		}
		return u(t.N + 1), api.OK
	case api.Pi, api.Sig:
		e = all(g.has(1, k[0], api.U, &a), g.with(1, k[0]).has(1, k[1], api.U, &b))
		return u(max(a.N, b.N)), e
	case api.Lam:
		e = all(g.has(1, k[0], api.U, &a), g.with(1, k[0]).has(1, k[1], 0, &b))
		return pi(k[0], b), e
	case api.App:
		if e = g.has(1, k[0], api.Pi, &a)(); e == api.OK {
			e = g.check(1, k[1], a.Kids[0])
		}
		if e != api.OK {
			return api.Tm{}, e
		}
		return term.Subst(a.Kids[1], 0, k[1]), api.OK
	case api.Pair:
		return g.pair(k)
	case api.Fst, api.Snd:
		if e = g.has(1, k[0], api.Sig, &a)(); e != api.OK {
			return api.Tm{}, e
		}
		if t.Op == api.Fst {
			return a.Kids[0], e
		}
		return term.Subst(a.Kids[1], 0, fst(k[0])), e
	case api.Rec:
		return g.rec(k)
	case api.Nat, api.Ty:
		return u(0), api.OK
	case api.Zero:
		return nat(), api.OK
	case api.Suc:
		return nat(), g.check(1, k[0], nat())
	case api.TInt:
		return ty(), api.OK
	case api.TFun, api.TPro:
		return ty(), all(g.is(1, k[0], ty()), g.is(1, k[1], ty()))
	case api.Lift:
		return u(0), g.check(1, k[0], ty())
	case api.Quo:
		e = g.has(0, k[0], 0, &a)()
		return lift(a), e
	}
	return g.object(t, k)
}

func (g told) pair(k [4]api.Tm) (api.Tm, api.Errno) {
	var a api.Tm
	if e := g.has(1, k[0], api.U, &a)(); e != api.OK {
		return api.Tm{}, e
	}
	s, e := norm.Normal(k[0])
	switch {
	case e != api.OK:
		return api.Tm{}, e
	case s.Op != api.Sig:
		return api.Tm{}, api.ErrShape
	}
	return s, all(g.is(1, k[1], s.Kids[0]), g.is(1, k[2], term.Subst(s.Kids[1], 0, k[1])))
}

func (g told) rec(k [4]api.Tm) (api.Tm, api.Errno) {
	var a api.Tm
	below := g.with(1, nat())
	if e := below.has(1, k[0], api.U, &a)(); e != api.OK {
		return api.Tm{}, e
	}
	// P of Suc n: in the place of the number one more, where h stands ahead of it
	next := term.Subst(term.Shift(term.Shift(k[0], 1, 1), 1, 1), 0, of(api.Suc, v(1)))
	e := all(g.is(1, k[1], term.Subst(k[0], 0, zero())), below.with(1, k[0]).is(1, k[2], next), g.is(1, k[3], nat()))
	return term.Subst(k[0], 0, k[3]), e
}

// outside is a type from below a variable.
func outside(a api.Tm, e api.Errno) (api.Tm, api.Errno) {
	if e == api.OK && term.Free(a, 0) {
		e = api.ErrScope
	}
	return term.Subst(a, 0, whole()), e
}

func (g told) object(t api.Tm, k [4]api.Tm) (api.Tm, api.Errno) {
	var a, b api.Tm
	var e api.Errno
	switch t.Op {
	case api.OLam:
		e = all(g.is(1, k[0], ty()), g.with(0, k[0]).has(0, k[1], 0, &b))
		b, e = outside(b, e)
		return tFun(k[0], b), e
	case api.OApp:
		if e = g.has(0, k[0], api.TFun, &a)(); e != api.OK {
			return api.Tm{}, e
		}
		return a.Kids[1], g.check(0, k[1], a.Kids[0])
	case api.OPair:
		e = all(g.has(0, k[0], 0, &a), g.has(0, k[1], 0, &b))
		return tPro(a, b), e
	case api.OFst, api.OSnd:
		if e = g.has(0, k[0], api.TPro, &a)(); e != api.OK {
			return api.Tm{}, e
		}
		return a.Kids[t.Op-api.OFst], e
	case api.OInt:
		return whole(), api.OK
	case api.OPrim:
		return whole(), all(g.is(0, k[0], whole()), g.is(0, k[1], whole()))
	case api.OIf:
		if e = all(g.is(0, k[0], whole()), g.has(0, k[1], 0, &a)); e != api.OK {
			return api.Tm{}, e
		}
		return a, g.check(0, k[2], a)
	case api.OLet:
		if e = g.has(0, k[0], 0, &a)(); e != api.OK {
			return api.Tm{}, e
		}
		return outside(g.with(0, a).infer(0, k[1]))
	case api.OFix:
		return k[0], all(g.is(1, k[0], ty()), g.with(0, k[0]).is(0, k[1], term.Shift(k[0], 1, 0)))
	}
	if e = g.has(1, k[0], api.Lift, &a)(); e != api.OK {
		return api.Tm{}, e
	}
	return a.Kids[0], api.OK
}

func (g told) context() api.Errno {
	for n, x := range g {
		ahead, e := g[:n], term.Check(x.T)
		var a api.Tm
		switch {
		case x.Stage != 0 && x.Stage != 1:
			return api.ErrArg
		case e != api.OK:
			return e
		case x.Stage == 0:
			e = ahead.check(1, x.T, ty())
		default:
			e = ahead.has(1, x.T, api.U, &a)()
		}
		if e != api.OK {
			return e
		}
	}
	return api.OK
}

// holds checks Infer and Check against the second telling; it tells that one's error.
func holds(t *testing.T, s sample, types []api.Tm) api.Errno {
	t.Helper()
	want, e := told(s.g).infer(s.stage, s.x)
	a, f := Infer(s.g, s.stage, s.x)
	if f != e || !term.Same(a, want) {
		if !heavy(e) || !heavy(f) {
			t.Errorf("%s: %s, %v, not %s, %v", short(s.x), short(a), f, short(want), e)
		}
		return e
	}
	for _, b := range types {
		want, e := told(s.g).check(s.stage, s.x, b), Check(s.g, s.stage, s.x, b)
		if e != want && (!heavy(e) || !heavy(want)) {
			t.Errorf("%s, %s: %v, not %v", short(s.x), short(b), e, want)
		}
	}
	return e
}

// mutants checks a term and so many others, of which a node or more is another one.
func mutants(t *testing.T, d *die, s sample, n int, seen map[api.Errno]int) {
	t.Helper()
	if e := holds(t, s, []api.Tm{nat(), whole(), u(0)}); e != api.OK {
		t.Errorf("%s: %v", short(s.x), e)
	}
	for range n {
		other := s
		other.x = d.mutated(other.x)
		for d.of(3) == 0 {
			other.x = d.mutated(other.x)
		}
		if term.Check(other.x) != api.OK {
			continue
		}
		seen[holds(t, other, []api.Tm{nat()})]++
		if d.of(8) == 0 {
			other.stage = 1 - s.stage
			holds(t, other, nil)
		}
	}
}

// P701: terms that have a type, and such that may have none, against the second telling.
func TestAgainstTheSecondTelling(t *testing.T) {
	seen := map[api.Errno]int{}
	d := &die{91}
	for _, s := range handMade() {
		mutants(t, d, s, 250, seen)
	}
	for _, s := range scopedSamples() {
		mutants(t, d, s, 1000, seen)
	}
	for _, s := range plainSamples(1, 600) {
		mutants(t, d, s, 15, seen)
	}
	for _, e := range []api.Errno{api.OK, api.ErrName, api.ErrStage, api.ErrType, api.ErrShape, api.ErrLevel, api.ErrScope} {
		if seen[e] < 100 && (e != api.ErrScope || seen[e] < 20) {
			t.Errorf("%v: only %d", e, seen[e])
		}
	}
}

// P702: contexts, and such with a node that is another one, against the second telling.
func TestContextsAgainstTheSecondTelling(t *testing.T) {
	seen := map[api.Errno]int{}
	d := &die{92}
	gs := []ctx{room(), scoped()}
	for k := range uint64(300) {
		gs = append(gs, (&die{k + 5001}).scoped().context())
	}
	for _, g := range gs {
		isContext(t, g, api.OK)
		for range 20 {
			if len(g) == 0 {
				continue
			}
			h := slices.Clone(g)
			n := d.of(len(g))
			h[n].T = d.mutated(h[n].T)
			if d.of(4) == 0 {
				h[n].Stage = d.of(4) - 1
			}
			want := told(h).context()
			isContext(t, h, want)
			seen[want]++
		}
	}
	for _, e := range []api.Errno{api.OK, api.ErrArg, api.ErrName, api.ErrStage, api.ErrType, api.ErrShape, api.ErrLevel} {
		if seen[e] < 20 {
			t.Errorf("%v: only %d", e, seen[e])
		}
	}
}
