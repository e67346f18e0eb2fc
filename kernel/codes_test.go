package kernel

import (
	"testing"

	"thyrsus/api"
)

// P701: OLam and OApp.
func TestCodeFunctions(t *testing.T) {
	g := room()
	infers(t, g, 0, oLam(whole(), v(0)), "(16 15 15)")
	infers(t, g, 0, oLam(v(3), v(0)), "(16 v3 v3)")
	infers(t, g, 0, oLam(v(3), v(3)), "(16 v3 v3)") // o
	infers(t, g, 0, oLam(same(ty(), whole()), oLam(v(4), oPair(v(0), v(1)))), "(16 15 (16 v3 (17 v3 15)))")
	infers(t, g, 0, oLam(tFun(v(3), whole()), oApp(v(0), v(3))), "(16 (16 v3 15) 15)")
	refused(t, g, 0, oLam(nat(), v(99)), api.ErrType)
	refused(t, g, 0, oLam(ty(), v(0)), api.ErrType)
	refused(t, g, 0, oLam(lift(whole()), v(0)), api.ErrType)
	refused(t, g, 0, oLam(v(6), v(0)), api.ErrStage)
	refused(t, g, 0, oLam(v(8), v(0)), api.ErrName)
	refused(t, g, 0, oLam(whole(), v(8)), api.ErrStage)
	refused(t, g, 0, oLam(whole(), num(1)), api.ErrStage)
	refused(t, g, 0, oLam(whole(), v(9)), api.ErrName)

	infers(t, g, 0, oApp(oLam(whole(), v(0)), i(1)), "15")
	infers(t, g, 0, oApp(oLam(v(3), oPair(v(0), v(7))), v(2)), "(17 v3 15)")
	infers(t, g, 0, oApp(oLam(same(ty(), whole()), v(0)), v(6)), "15")
	refused(t, g, 0, oApp(i(1), v(99)), api.ErrShape)
	refused(t, g, 0, oApp(v(2), i(1)), api.ErrShape)
	refused(t, g, 0, oApp(oPair(i(1), i(1)), i(1)), api.ErrShape)
	refused(t, g, 0, oApp(spl(v(4)), i(1)), api.ErrShape)
	refused(t, g, 0, oApp(v(0), v(7)), api.ErrStage)
	refused(t, g, 0, oApp(oLam(whole(), v(0)), oPair(i(1), i(2))), api.ErrType)
	refused(t, g, 0, oApp(oLam(whole(), v(0)), v(2)), api.ErrType)
	refused(t, g, 0, oApp(oLam(whole(), v(0)), v(7)), api.ErrStage)
	refused(t, g, 0, oApp(oLam(whole(), v(0)), v(8)), api.ErrName)
}

// P701: OPair, OFst and OSnd.
func TestCodePairs(t *testing.T) {
	g := room()
	infers(t, g, 0, oPair(i(1), v(2)), "(17 15 v3)")
	infers(t, g, 0, oPair(v(2), oPair(i(2), oLam(whole(), v(0)))), "(17 v3 (17 15 (16 15 15)))")
	refused(t, g, 0, oPair(v(7), v(99)), api.ErrStage)
	refused(t, g, 0, oPair(i(1), zero()), api.ErrStage)
	refused(t, g, 0, oPair(i(1), v(8)), api.ErrName)
	infers(t, g, 0, of(api.OFst, oPair(i(1), v(2))), "15")
	infers(t, g, 0, of(api.OSnd, oPair(i(1), v(2))), "v3")
	infers(t, g, 0, of(api.OSnd, of(api.OFst, oPair(oPair(i(1), oLam(whole(), v(0))), i(2)))), "(16 15 15)")
	for _, op := range []int{api.OFst, api.OSnd} {
		refused(t, g, 0, of(op, i(1)), api.ErrShape)
		refused(t, g, 0, of(op, v(2)), api.ErrShape)
		refused(t, g, 0, of(op, oLam(whole(), v(0))), api.ErrShape)
		refused(t, g, 0, of(op, v(1)), api.ErrStage) // a pair of programs
		refused(t, g, 0, of(op, v(8)), api.ErrName)
	}
}

// P701: OInt, OPrim and OIf.
func TestCodeNumbers(t *testing.T) {
	g := room()
	for _, n := range []int{0, 1, -1, 1 << 62, -1 << 63} {
		infers(t, g, 0, i(n), "15")
	}
	for p := api.PAdd; p <= api.PLes; p++ {
		infers(t, g, 0, numbered(api.OPrim, p, i(1), v(6)), "15")
		refused(t, g, 0, numbered(api.OPrim, p, v(2), v(99)), api.ErrType)
		refused(t, g, 0, numbered(api.OPrim, p, i(1), v(2)), api.ErrType)
		refused(t, g, 0, numbered(api.OPrim, p, i(1), oLam(whole(), v(0))), api.ErrType)
		refused(t, g, 0, numbered(api.OPrim, p, i(1), zero()), api.ErrStage)
		refused(t, g, 0, numbered(api.OPrim, p, v(8), v(2)), api.ErrName)
	}
	infers(t, g, 0, oIf(i(1), i(2), v(6)), "15")
	infers(t, g, 0, oIf(v(6), v(2), v(2)), "v3")
	infers(t, g, 0, oIf(v(6), oLam(same(ty(), v(3)), v(0)), oLam(v(3), v(3))), "(16 v3 v3)")
	refused(t, g, 0, oIf(v(2), v(99), v(99)), api.ErrType)
	refused(t, g, 0, oIf(oPair(i(1), i(1)), i(2), i(2)), api.ErrType)
	refused(t, g, 0, oIf(i(1), i(2), v(2)), api.ErrType)
	refused(t, g, 0, oIf(i(1), v(2), i(2)), api.ErrType)
	refused(t, g, 0, oIf(v(7), i(2), i(2)), api.ErrStage)
	refused(t, g, 0, oIf(i(1), v(8), v(7)), api.ErrName)
	refused(t, g, 0, oIf(i(1), i(2), v(7)), api.ErrStage)
}

// P701: OLet and OFix.
func TestCodeBinders(t *testing.T) {
	g := room()
	infers(t, g, 0, oLet(i(1), oPair(v(0), v(0))), "(17 15 15)")
	infers(t, g, 0, oLet(v(2), oPair(v(0), v(7))), "(17 v3 15)")
	infers(t, g, 0, oLet(oLam(v(3), v(0)), oApp(v(0), v(3))), "v3")
	infers(t, g, 0, oLet(i(1), oLet(v(3), oLam(v(5), oPair(v(1), v(2))))), "(16 v3 (17 v3 15))")
	refused(t, g, 0, oLet(v(8), v(7)), api.ErrName)
	refused(t, g, 0, oLet(v(7), v(99)), api.ErrStage)
	refused(t, g, 0, oLet(i(1), v(8)), api.ErrStage)
	refused(t, g, 0, oLet(i(1), v(9)), api.ErrName)
	refused(t, g, 0, oLet(i(1), oApp(v(0), v(0))), api.ErrShape)
	infers(t, g, 0, oFix(whole(), v(0)), "15")
	infers(t, g, 0, oFix(v(3), v(3)), "v3") // o
	infers(t, g, 0, oFix(v(3), v(0)), "v3")
	infers(t, g, 0, oFix(same(ty(), tFun(whole(), v(3))), oLam(whole(), oApp(v(1), v(0)))), "(16 15 v3)")
	infers(t, g, 0, oFix(tFun(whole(), whole()), oLam(same(ty(), whole()), oIf(v(0), i(1), oApp(v(1), plus(v(0), i(-1)))))), "(16 15 15)")
	refused(t, g, 0, oFix(nat(), v(99)), api.ErrType)
	refused(t, g, 0, oFix(v(2), v(0)), api.ErrStage)
	refused(t, g, 0, oFix(whole(), oPair(v(0), v(0))), api.ErrType)
	refused(t, g, 0, oFix(whole(), v(3)), api.ErrType)
	refused(t, g, 0, oFix(v(3), i(1)), api.ErrType)
	refused(t, g, 0, oFix(whole(), v(8)), api.ErrStage)
	refused(t, g, 0, oFix(tFun(whole(), whole()), oApp(v(0), i(1))), api.ErrType)
}

// P701: Spl.
func TestSplices(t *testing.T) {
	g := room()
	infers(t, g, 0, spl(v(4)), "15")
	infers(t, g, 0, spl(quo(v(2))), "v3")
	infers(t, g, 0, spl(app(lam(lift(v(3)), v(0)), quo(v(2)))), "v3")
	infers(t, g, 0, spl(same(lift(tPro(whole(), v(3))), quo(oPair(i(1), v(2))))), "(17 15 v3)")
	refused(t, g, 0, spl(num(1)), api.ErrShape)
	refused(t, g, 0, spl(v(7)), api.ErrShape)
	refused(t, g, 0, spl(lift(whole())), api.ErrShape)
	refused(t, g, 0, spl(whole()), api.ErrShape)
	refused(t, g, 0, spl(v(6)), api.ErrStage)
	refused(t, g, 0, spl(spl(v(4))), api.ErrStage)
	refused(t, g, 0, spl(v(8)), api.ErrName)
}

// scoped is a context of v2, a function of code whose types hang on it (v3), and of v1: TInt, v0: TFun TInt TInt (stage 0).
func scoped() ctx {
	g := ctx{}.with(1, pi(lift(whole()), ty()))
	return g.with(1, pi(lift(whole()), lift(app(v(1), v(0))))).with(0, whole()).with(0, tFun(whole(), whole()))
}

// made is code of the type v3 x, below so many binders more.
func made(under int, x api.Tm) api.Tm { return spl(app(v(2+under), quo(x))) }

// P701: ErrScope, where a type names a variable of object code that it would outlive.
func TestScope(t *testing.T) {
	g := scoped()
	stands(t, g)
	infers(t, g, 0, made(0, i(1)), "(5 v3 (19 i1))")
	infers(t, g, 0, made(0, v(1)), "(5 v3 (19 v1))")
	for _, x := range []func(b api.Tm) api.Tm{
		func(b api.Tm) api.Tm { return oLam(whole(), b) },
		func(b api.Tm) api.Tm { return oLet(i(7), b) },
	} {
		refused(t, g, 0, x(made(1, v(0))), api.ErrScope)
		refused(t, g, 0, x(made(1, plus(v(2), v(0)))), api.ErrScope)
		refused(t, g, 0, x(oPair(v(0), made(1, v(0)))), api.ErrScope)
		refused(t, g, 0, x(oLam(whole(), made(2, v(1)))), api.ErrScope)
		refused(t, g, 0, x(oLet(v(0), made(2, v(1)))), api.ErrScope)
		refused(t, g, 0, x(oLam(whole(), made(2, v(0)))), api.ErrScope)
		refused(t, g, 0, x(oLam(app(v(4), quo(v(0))), i(1))), api.ErrScope)
		refused(t, g, 1, quo(x(made(1, v(0)))), api.ErrScope)
		refused(t, g, 0, x(made(1, oApp(v(1), zero()))), api.ErrStage) // ahead of it
		refused(t, g, 0, x(oApp(v(0), made(1, v(0)))), api.ErrShape)
	}
	infers(t, g, 0, oLam(whole(), made(1, v(2))), "(16 15 (5 v3 (19 v1)))")
	infers(t, g, 0, oLet(i(7), made(1, v(2))), "(5 v3 (19 v1))")
	infers(t, g, 0, oLet(i(7), oPair(v(0), made(1, oApp(v(1), v(2))))), "(17 15 (5 v3 (19 (21 v0 v1))))")
	infers(t, g, 0, oLam(whole(), of(api.OFst, oPair(v(0), made(1, v(0))))), "(16 15 15)") // its type names it no more
	infers(t, g, 0, oLet(i(7), oLet(made(1, v(0)), v(1))), "15")
	infers(t, g, 0, oFix(whole(), oLet(made(1, v(0)), v(1))), "15")
	refused(t, g, 0, oLam(whole(), oFix(app(v(4), quo(v(0))), v(0))), api.ErrScope)
}

// P701: types may name the variables of functions that run ahead, and a name that a step takes away is none.
func TestScopeOfPrograms(t *testing.T) {
	g := scoped()
	infers(t, g, 1, lam(lift(whole()), quo(spl(app(v(3), v(0))))), "(3 (18 15) (18 (5 v4 v0)))")
	infers(t, g, 1, lam(lift(whole()), quo(oLam(whole(), spl(app(v(4), v(1)))))), "(3 (18 15) (18 (16 15 (5 v4 v0))))")
	infers(t, g, 0, spl(app(lam(lift(whole()), quo(made(1, spl(v(0))))), quo(v(1)))), "(5 v3 (19 v1))")
	refused(t, g, 0, oLam(whole(), spl(app(lam(lift(whole()), quo(made(2, spl(v(0))))), quo(v(0))))), api.ErrScope)
	constant := app(lam(pi(lift(whole()), ty()), app(v(0), quo(v(2)))), lam(lift(whole()), whole()))
	infers(t, g, 0, oLam(app(lam(lift(whole()), whole()), quo(v(1))), v(0)), "(16 15 15)")
	infers(t, g, 0, oLet(i(1), oLam(app(lam(lift(whole()), whole()), quo(v(0))), v(0))), "(16 15 15)")
	infers(t, g, 0, oLam(constant, v(0)), "(16 15 15)")
}
