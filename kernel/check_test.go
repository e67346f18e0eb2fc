package kernel

import (
	"testing"

	"thyrsus/api"
	"thyrsus/term"
)

// typed are terms in room with their types, at both stages.
func typed() []struct {
	stage int
	x, a  api.Tm
} {
	return []struct {
		stage int
		x, a  api.Tm
	}{
		{1, v(7), nat()}, {1, num(3), nat()}, {1, v(5), pi(nat(), u(0))}, {1, v(4), lift(whole())}, {1, v(3), ty()}, {1, nat(), u(0)}, {1, u(0), u(1)}, {1, u(1), u(2)},
		{1, v(1), sig(nat(), app(v(6), v(0)))}, {1, v(0), pi(nat(), app(v(6), v(0)))}, {1, app(v(0), num(1)), app(v(5), num(1))}, {1, snd(v(1)), app(v(5), fst(v(1)))},
		{1, lam(u(0), lam(v(0), v(0))), pi(u(0), pi(v(0), v(1)))}, {1, quo(v(2)), lift(v(3))}, {1, tFun(v(3), whole()), ty()},
		{0, v(6), whole()}, {0, v(2), v(3)}, {0, oLam(v(3), v(0)), tFun(v(3), v(3))}, {0, oPair(i(1), v(2)), tPro(whole(), v(3))},
	}
}

// P701: Check, of the type as it is and of each other one.
func TestCheck(t *testing.T) {
	g := room()
	for _, x := range typed() {
		infers(t, g, x.stage, x.x, term.Text(x.a))
		for _, y := range typed() {
			want := api.ErrType
			if term.Same(x.a, y.a) {
				want = api.OK
			}
			checks(t, g, x.stage, x.x, y.a, want)
		}
	}
}

// P701: Check, of the type written otherwise.
func TestCheckOfEqualTypes(t *testing.T) {
	g := room()
	for _, x := range typed() {
		of0 := u(2) // what stands there in place of a universe is nobody's matter
		for _, y := range typed() {
			want := api.ErrType
			if term.Same(x.a, y.a) {
				want = api.OK
			}
			checks(t, g, x.stage, x.x, same(of0, y.a), want)
			checks(t, g, x.stage, x.x, fst(pairOf(sig(of0, nat()), y.a, zero())), want)
			checks(t, g, x.stage, x.x, rec(of0, y.a, v(0), num(3)), want)
			checks(t, g, x.stage, x.x, rec(of0, nat(), term.Shift(y.a, 2, 0), num(3)), want)
		}
	}
	checks(t, g, 1, app(v(0), num(3)), app(v(5), add(num(1), num(2))), api.OK)
	checks(t, g, 1, app(v(0), add(num(1), num(2))), app(v(5), num(3)), api.OK)
	checks(t, g, 1, app(v(0), add(num(1), num(2))), app(v(5), add(num(2), num(1))), api.OK)
	checks(t, g, 1, app(v(0), add(v(7), num(2))), app(v(5), of(api.Suc, of(api.Suc, v(7)))), api.OK)
	checks(t, g, 1, app(v(0), num(3)), app(v(5), add(num(1), num(3))), api.ErrType)
	checks(t, g, 1, app(v(0), add(num(2), v(7))), app(v(5), of(api.Suc, of(api.Suc, v(7)))), api.ErrType)
	checks(t, nil, 0, i(1), app(lam(ty(), v(0)), whole()), api.OK)
}

// P701: Check, of types that are equal by eta.
func TestCheckByEta(t *testing.T) {
	fun, pairs := pi(nat(), nat()), sig(nat(), nat())
	// v3: of functions and pairs, v2 a function, v1 a pair, v0: v3 v2 v1
	g := ctx{}.with(1, pi(fun, pi(pairs, u(0)))).with(1, fun).with(1, pairs).with(1, app(v(2), v(1), v(0)))
	stands(t, g)
	wide, whole := lam(nat(), app(v(3), v(0))), pairOf(pairs, fst(v(1)), snd(v(1)))
	for _, f := range []api.Tm{v(2), wide, lam(nat(), app(skipped(wide), v(0))), same(fun, wide)} {
		for _, p := range []api.Tm{v(1), whole, same(pairs, whole), pairOf(pairs, fst(whole), snd(v(1)))} {
			checks(t, g, 1, v(0), app(v(3), f, p), api.OK)
			infers(t, g, 1, app(lam(app(v(3), f, p), zero()), v(0)), "10")
		}
	}
	checks(t, g, 1, v(0), app(v(3), lam(nat(), app(v(3), of(api.Suc, v(0)))), v(1)), api.ErrType)
	checks(t, g, 1, v(0), app(v(3), v(2), pairOf(pairs, snd(v(1)), fst(v(1)))), api.ErrType)
}

// P701: Infer's error ahead of conv.Equal's, that ahead of ErrType.
func TestOrderOfCheck(t *testing.T) {
	g := room()
	for stage := range 2 {
		for _, x := range faults(stage) {
			for _, a := range []api.Tm{nat(), whole(), deepType(), v(2000), lam(nat(), v(0))} {
				checks(t, g, stage, x.x, a, x.e)
			}
		}
	}
	checks(t, g, 1, zero(), deepType(), api.ErrDeep)
	checks(t, g, 0, i(1), deepType(), api.ErrDeep)
	checks(t, g, 1, v(7), pi(nat(), app(v(6), add(num(60), num(60)))), api.ErrDeep)
	checks(t, g, 1, app(v(0), num(110)), app(v(5), add(num(60), num(50))), api.OK)
	checks(t, g, 1, app(v(0), num(110)), app(v(5), add(num(60), num(60))), api.ErrDeep)
	checks(t, g, 1, app(v(0), add(num(60), num(60))), app(v(5), add(num(60), num(60))), api.ErrDeep)
	checks(t, g, 2, zero(), nat(), api.ErrStage)
	checks(t, g, 0, zero(), nat(), api.ErrStage)
	checks(t, g, 1, zero(), of(77), api.ErrType)
	checks(t, g, 1, of(77), nat(), api.ErrArg)
}
