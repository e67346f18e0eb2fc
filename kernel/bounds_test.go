package kernel

import (
	"testing"

	"thyrsus/api"
	"thyrsus/norm"
	"thyrsus/term"
)

// tys is a type of object code, of so many nodes (an odd count).
func tys(n int) api.Tm {
	if n == 1 {
		return whole()
	}
	a := (n-1)/4*2 + 1
	return tPro(tys(a), tys(n-1-a))
}

// chain is a type of object code that is so deep.
func chain(n int) api.Tm {
	a := whole()
	for range n - 1 {
		a = tFun(whole(), a)
	}
	return a
}

// long is a number, by too many steps.
func long() api.Tm {
	flip := lam(nat(), rec(nat(), num(1), zero(), v(0)))
	often := rec(pi(nat(), nat()), flip, lam(nat(), app(v(1), app(v(1), v(0)))), num(60))
	return app(often, num(1))
}

// heavy tells whether an error is one of what is not light.
func heavy(e api.Errno) bool { return e == api.ErrFuel || e == api.ErrDeep }

// P701: OPair's type, as great and as deep as may be, and more.
func TestPairsThatAreTooGreat(t *testing.T) {
	for _, x := range []struct {
		a, b api.Tm
		want api.Errno
	}{
		{tys(1499), tys(1499), api.OK}, {tys(1499), tys(1501), api.ErrDeep}, {tys(2997), whole(), api.OK}, {tys(2999), whole(), api.ErrDeep},
		{whole(), tys(2999), api.ErrDeep}, {tys(2999), tys(2999), api.ErrDeep},
		{chain(119), whole(), api.OK}, {whole(), chain(119), api.OK}, {chain(120), whole(), api.ErrDeep}, {whole(), chain(120), api.ErrDeep},
	} {
		g := ctx{}.with(0, x.a).with(0, x.b)
		stands(t, g)
		if x.want == api.OK {
			infers(t, g, 0, oPair(v(1), v(0)), term.Text(tPro(x.a, x.b)))
			continue
		}
		refused(t, g, 0, oPair(v(1), v(0)), x.want)
		refused(t, g, 0, of(api.OFst, oPair(v(1), v(0))), x.want)
		refused(t, g, 0, oLet(oPair(v(1), v(0)), i(1)), x.want)
		refused(t, g, 0, oPair(oPair(v(1), v(0)), v(99)), x.want)
		refused(t, g, 0, oPair(oPair(v(1), v(99)), v(99)), api.ErrName)
	}
	twice := i(1)
	for range 10 {
		twice = oLet(twice, oPair(v(0), v(0)))
	}
	if a, e := Infer(nil, 0, twice); e != api.OK || term.Size(a) != 2047 {
		t.Errorf("%v, %d nodes", e, term.Size(a))
	}
	for range 12 {
		twice = oLet(twice, oPair(v(0), v(0)))
		refused(t, nil, 0, twice, api.ErrDeep)
	}
}

// P701: all types are normal ones, so as great and as deep as those may be.
func TestTypesThatAreTooGreat(t *testing.T) {
	seen := map[api.Errno]int{}
	for _, a := range []api.Tm{chain(115), chain(116), chain(117), chain(118), chain(119), chain(120), tys(2993), tys(2995), tys(2997), tys(2999)} {
		g := ctx{}.with(1, ty()).with(0, a)
		stands(t, g)
		told := func(stage int, x, want api.Tm) {
			t.Helper()
			e := term.Check(want)
			seen[e]++
			if e == api.OK {
				infers(t, g, stage, x, term.Text(want))
			} else {
				refused(t, g, stage, x, e)
			}
		}
		told(0, oLam(v(1), v(1)), tFun(v(1), a))
		told(0, oLam(v(1), oLam(v(2), v(2))), tFun(v(1), tFun(v(1), a)))
		told(1, quo(oLam(v(1), v(1))), lift(tFun(v(1), a)))
		x, want := api.Tm{}, lift(a)
		for n := range 4 { // v0 below so many Lams
			x = quo(v(n))
			for range n {
				x = lam(nat(), x)
			}
			told(1, x, want)
			want = pi(nat(), want)
		}
		infers(t, g, 0, oIf(i(1), v(0), v(0)), term.Text(a))
		infers(t, g, 0, oLet(i(1), v(1)), term.Text(a))
	}
	if seen[api.OK] < 20 || seen[api.ErrDeep] < 20 {
		t.Errorf("only %v", seen)
	}
}

// P701: norm.Normal's errors, where a type must be normal.
func TestTypesThatAreTooDeep(t *testing.T) {
	g := room().with(1, pi(nat(), app(v(6), add(v(0), num(60))))) // v0 n: F (n + 60)
	stands(t, g)
	infers(t, g, 1, app(v(0), num(50)), term.Text(app(v(6), num(110))))
	refused(t, g, 1, app(v(0), num(60)), api.ErrDeep)
	infers(t, g, 1, app(v(1), num(110)), term.Text(app(v(6), num(110))))
	refused(t, g, 1, app(v(1), add(num(60), num(60))), api.ErrDeep)
	refused(t, g, 1, lam(deepType(), zero()), api.ErrDeep)
	refused(t, g, 1, lam(deepType(), v(0)), api.ErrDeep)
	refused(t, g, 1, lam(deepType(), v(99)), api.ErrName) // what is not normal yet
	infers(t, g, 1, pi(deepType(), nat()), "U0")
	infers(t, g, 1, deepType(), "U0")
	infers(t, g, 1, app(lam(u(0), zero()), deepType()), "10")
	refused(t, g, 1, app(lam(u(0), lam(v(0), v(0))), deepType()), api.ErrDeep)
	refused(t, g, 1, pairOf(deepType(), v(99), v(99)), api.ErrDeep) // ahead of its parts
	refused(t, g, 1, pairOf(sig(nat(), deepType()), v(99), v(99)), api.ErrDeep)
	refused(t, g, 1, snd(pairOf(sig(nat(), app(v(7), add(v(0), num(60)))), num(60), zero())), api.ErrDeep)
	refused(t, g, 1, pairOf(sig(nat(), app(v(7), add(v(0), num(60)))), num(60), v(99)), api.ErrName) // b's own ahead of B of a
	refused(t, g, 1, rec(app(v(7), add(v(0), num(60))), app(v(0), zero()), app(v(2), of(api.Suc, v(1))), num(60)), api.ErrDeep)
	refused(t, g, 1, rec(app(v(7), add(v(0), num(60))), app(v(0), zero()), app(v(2), of(api.Suc, v(1))), v(99)), api.ErrName)
	infers(t, g, 1, rec(app(v(7), add(v(0), num(60))), app(v(0), zero()), app(v(2), of(api.Suc, v(1))), num(3)), term.Text(app(v(6), num(63))))
	code := rec(ty(), whole(), tFun(whole(), v(0)), add(num(60), num(60)))
	refused(t, g, 0, oLam(code, i(1)), api.ErrDeep)
	refused(t, g, 0, oLam(code, zero()), api.ErrStage)
	refused(t, g, 0, oFix(code, zero()), api.ErrStage)
	refused(t, g, 0, oFix(code, v(0)), api.ErrDeep)
	infers(t, g, 1, lift(code), "U0")
	infers(t, g, 1, tFun(code, code), "14")
}

// P701: types that are not light by their steps.
func TestTypesOfTooManySteps(t *testing.T) {
	if _, e := norm.Normal(long()); e != api.ErrFuel {
		t.Fatalf("%v: not long", e)
	}
	g := ctx{}.with(1, pi(nat(), u(0))).with(1, app(v(0), long()))
	stands(t, g) // nothing asks for a normal form yet
	for _, x := range []api.Tm{v(0), lam(app(v(1), long()), v(0)), lam(app(v(1), long()), zero()), pairOf(sig(nat(), app(v(2), long())), zero(), v(0)), rec(app(v(2), long()), v(0), v(0), zero())} {
		a, e := Infer(g, 1, x)
		if !heavy(e) || a.Op != 0 {
			t.Errorf("%s: %s, %v", short(x), short(a), e)
		}
	}
	if e := Check(g, 1, zero(), app(v(1), long())); !heavy(e) {
		t.Errorf("%v", e)
	}
	infers(t, g, 1, app(v(1), long()), "U0")
	infers(t, g, 1, long(), "10")
	infers(t, g, 1, snd(pairOf(sig(u(0), nat()), app(v(1), long()), num(1))), "10")
}

// P701: one that is put in many places of a type is no heavier for it.
func TestArgumentsInManyPlaces(t *testing.T) {
	var many func(n, under int) api.Tm
	many = func(n, under int) api.Tm {
		if n == 0 {
			return rec(u(0), nat(), v(0), v(under))
		}
		return sig(many(n-1, under), many(n-1, under+1))
	}
	g := ctx{}.with(1, pi(nat(), many(8, 0)))
	stands(t, g)
	var want func(n int) api.Tm
	want = func(n int) api.Tm {
		if n == 0 {
			return nat()
		}
		return sig(want(n-1), want(n-1))
	}
	a, e := Infer(g, 1, app(v(0), add(zero(), add(zero(), zero()))))
	if e != api.OK || !term.Same(a, want(8)) {
		t.Errorf("%s, %v", short(a), e)
	}
}

// P701: terms as great and as deep as may be; what is no term is refused.
func TestGreatTerms(t *testing.T) {
	var sums func(n int) api.Tm
	sums = func(n int) api.Tm {
		if n == 1 {
			return i(0)
		}
		a := (n-1)/4*2 + 1
		return plus(sums(a), sums(n-1-a))
	}
	infers(t, nil, 0, sums(2999), "15")
	infers(t, nil, 1, quo(sums(2999)), "(18 15)")
	refused(t, nil, 0, sums(3001), api.ErrDeep)
	infers(t, nil, 1, num(119), "10")
	refused(t, nil, 1, num(120), api.ErrDeep)
	lams := zero()
	for range 59 {
		lams = lam(nat(), lams)
	}
	infers(t, nil, 1, lams, term.Text(normal(t, arrows(num(0), num(59)))))
	g := ctx{}.with(0, tys(2999))
	x := v(0)
	for range 7 {
		x = oIf(i(0), x, x)
	}
	infers(t, g, 0, x, term.Text(tys(2999)))
}
