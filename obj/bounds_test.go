package obj

import (
	"testing"

	"thyrsus/api"
	"thyrsus/kernel"
	"thyrsus/term"
)

// doubled is code of a pair of two of a pair of two .. of x.
func doubled(n int, x api.Tm) api.Tm {
	for range n {
		x = oLet(x, oPair(v(0), v(0)))
	}
	return x
}

// told checks what Infer tells: a type that is a term, or ErrDeep.
func told(t *testing.T, g []api.Tm, x, want api.Tm) api.Errno {
	t.Helper()
	e := term.Check(want)
	if e == api.OK {
		infers(t, g, x, term.Text(want))
	} else {
		refused(t, g, x, api.ErrDeep)
	}
	return e
}

// P1101: pairs that double.
func TestPairsThatDouble(t *testing.T) {
	for n := range 11 {
		a, e := Infer(nil, doubled(n, i(1)))
		if e != api.OK || term.Size(a) != 2<<n-1 {
			t.Errorf("%d: %v, %d nodes", n, e, term.Size(a))
		}
	}
	for n := 11; n < 119; n++ {
		refused(t, nil, doubled(n, i(1)), api.ErrDeep)
	}
	many := i(1)
	for range 59 {
		many = oLet(oPair(v(0), v(0)), many)
	}
	refused(t, []api.Tm{whole()}, many, api.ErrDeep)
	refused(t, nil, doubled(20, v(0)), api.ErrName)
}

// P1101: the types of pairs and functions as great and as deep as may be, and one more.
func TestTypesThatAreTooGreat(t *testing.T) {
	seen := map[api.Errno]int{}
	parts := []api.Tm{whole(), f(), tys(1497), tys(1499), tys(1501), tys(2993), tys(2995), tys(2997), tys(2999), chain(117), chain(118), chain(119), chain(120)}
	for _, a := range parts {
		for _, b := range parts {
			g := []api.Tm{a, b}
			infers(t, g, v(1), term.Text(a))
			seen[told(t, g, oPair(v(1), v(0)), tPro(a, b))]++
			seen[told(t, g, oLam(whole(), v(1)), tFun(whole(), b))]++
			seen[told(t, g, oLam(whole(), oPair(v(2), v(1))), tFun(whole(), tPro(a, b)))]++
			infers(t, g, oLet(v(1), v(1)), term.Text(b))
			infers(t, g, oIf(i(1), v(0), v(0)), term.Text(b))
			if term.Check(oLam(a, v(1))) == api.OK {
				seen[told(t, g, oLam(a, v(1)), tFun(a, b))]++
				seen[told(t, g, oLam(a, v(0)), tFun(a, a))]++
				infers(t, g, oFix(a, v(0)), term.Text(a))
			}
		}
	}
	if seen[api.OK] < 100 || seen[api.ErrDeep] < 100 {
		t.Errorf("only %v", seen)
	}
}

// P1101: functions of functions, as deep as may be, and one more.
func TestFunctionsAsDeepAsMayBe(t *testing.T) {
	for n := range 120 {
		x, want := i(1), whole()
		for range n {
			x, want = oLam(whole(), x), tFun(whole(), want)
		}
		infers(t, nil, x, term.Text(want))
	}
	for _, deep := range []int{1, 2, 60, 118, 119, 120} {
		for n := range 4 {
			x, want := v(n), chain(deep)
			for range n {
				x, want = oLam(whole(), x), tFun(whole(), want)
			}
			told(t, []api.Tm{chain(deep)}, x, want)
		}
	}
	x := oLam(whole(), i(1))
	for range 118 {
		x = oFix(f(), x)
	}
	infers(t, nil, x, "(16 15 15)")
}

// P1101: ErrDeep behind all that is wrong in it, and ahead of what is wrong behind it.
func TestOrderOfErrDeep(t *testing.T) {
	g := []api.Tm{tys(2999), tys(2999), whole()}
	great, pair := oPair(v(2), v(1)), oLam(whole(), v(2))
	for _, x := range []api.Tm{great, pair} {
		refused(t, g, x, api.ErrDeep)
		refused(t, g, oPair(v(2000), x), api.ErrName)
		refused(t, g, oPair(x, v(2000)), api.ErrDeep)
		refused(t, g, oLet(x, v(2000)), api.ErrDeep)
		refused(t, g, oFst(x), api.ErrDeep)
		refused(t, g, oApp(x, v(2000)), api.ErrDeep)
		refused(t, g, plus(x, v(2000)), api.ErrDeep)
		refused(t, g, plus(v(2), x), api.ErrType)
		refused(t, g, oFix(f(), oLet(i(1), x)), api.ErrType) // v2 is another one there
		refused(t, g, oIf(v(0), x, num(1)), api.ErrDeep)
		refused(t, g, oIf(x, v(0), num(1)), api.ErrDeep)
	}
	refused(t, g, oPair(v(2), oPair(v(1), v(2000))), api.ErrName)
	refused(t, g, oPair(v(2), whole()), api.ErrStage)
	refused(t, g, oPair(v(2), oFst(v(0))), api.ErrShape)
	refused(t, g, oPair(v(2), plus(v(0), v(1))), api.ErrType)
	refused(t, g, oLam(whole(), oPair(v(2), plus(v(2), v(1)))), api.ErrType)
	refused(t, g, oLam(whole(), oLet(v(2), oFst(v(1)))), api.ErrShape)
	refused(t, g, oLam(f(), oLam(whole(), v(2000))), api.ErrName)
	refused(t, g, oLam(num(1), v(2)), api.ErrStage)
	refused(t, nil, oPair(oSnd(i(1)), doubled(20, i(1))), api.ErrShape)
	refused(t, nil, oPair(doubled(20, i(1)), oSnd(i(1))), api.ErrDeep)
	refused(t, nil, oPair(doubled(10, i(1)), oPair(doubled(10, i(1)), oSnd(i(1)))), api.ErrShape)
}

// P1101: terms as great as may be, in which a great type is told again and again.
func TestGreatTerms(t *testing.T) {
	var ifs func(n int, x api.Tm) api.Tm
	ifs = func(n int, x api.Tm) api.Tm {
		if n == 0 {
			return x
		}
		return oIf(i(n), ifs(n-1, x), ifs(n-1, x))
	}
	infers(t, []api.Tm{tys(2999)}, ifs(9, v(0)), term.Text(tys(2999)))
	infers(t, []api.Tm{tPro(tys(1497), tys(1499))}, ifs(8, oPair(oFst(v(0)), oSnd(v(0)))), term.Text(tPro(tys(1497), tys(1499))))
	refused(t, []api.Tm{tys(2999)}, oIf(i(1), ifs(8, v(0)), ifs(9, i(1))), api.ErrType)
	deep := v(0)
	for k := range 119 {
		deep = []api.Tm{oIf(i(0), deep, i(1)), oLet(deep, v(0)), plus(i(2), deep)}[k%3]
	}
	infers(t, []api.Tm{whole()}, deep, "15")
}

// P1101: what is no term is refused by term.Check's error.
func TestNoTerms(t *testing.T) {
	deep := i(1)
	for range 120 {
		deep = oLam(whole(), deep)
	}
	refused(t, nil, deep, api.ErrDeep)
	for _, x := range []api.Tm{{}, of(31), of(-1), of(api.OLam, whole()), of(api.OInt, i(1)), numbered(api.OLam, 1, whole(), v(0)), v(3001), v(-1), prim(5, i(1), i(2)), prim(-1, i(1), i(2)), oLam(of(api.TFun, whole()), v(0)), oLam(numbered(api.TInt, 7), v(0)), oLet(v(2000), of(77))} {
		refused(t, nil, x, term.Check(x))
		refused(t, nil, oPair(num(1), x), term.Check(x))
	}
}

// P1103: the small checker's answers are the same at those bounds.
func TestGreatTypesOfTheSmallChecker(t *testing.T) {
	for _, a := range []api.Tm{tys(1499), tys(1501), tys(2997), tys(2999), chain(118), chain(119), chain(120)} {
		for _, x := range []api.Tm{v(0), oPair(v(0), v(0)), oLam(whole(), v(1)), oLam(whole(), oLam(whole(), v(2))), oPair(v(0), i(1)), oLet(v(0), oPair(i(1), v(0))), oIf(i(1), v(0), v(0)), oFix(f(), oLam(whole(), oLet(oPair(v(2), v(2)), v(1)))), doubled(9, v(0))} {
			got, e := Infer([]api.Tm{a}, x)
			want, f := kernel.Infer([]api.Var1{{T: a}}, 0, x)
			if e != f || !term.Same(got, want) && e == api.OK {
				t.Errorf("%s: %s, %v, not %s, %v", short(x), short(got), e, short(want), f)
			}
		}
	}
}
