package norm

import (
	"testing"

	"thyrsus/api"
)

// step is a term, and what it becomes.
type step struct{ from, to api.Tm }

// P501: each row, with what is left of it named by variables.
func TestEachStep(t *testing.T) {
	sig := of(api.Sig, v(1), v(2))
	for _, x := range []step{
		{app(lam(v(5), v(0)), v(7)), v(7)},
		{app(lam(v(5), v(3)), v(7)), v(2)},
		{app(lam(v(5), app(v(1), v(0), v(0))), v(7)), app(v(0), v(7), v(7))},
		{app(lam(v(5), lam(v(1), app(v(1), v(0), v(2)))), v(7)), lam(v(0), app(v(8), v(0), v(1)))},
		{of(api.Fst, pairOf(sig, v(7), v(8))), v(7)},
		{of(api.Snd, pairOf(sig, v(7), v(8))), v(8)},
		{rec(v(1), v(7), v(3), zero()), v(7)},
		{rec(v(1), v(7), v(3), of(api.Suc, v(8))), v(1)},
		{rec(v(1), v(7), v(1), of(api.Suc, v(8))), v(8)},
		{rec(v(1), v(7), v(0), of(api.Suc, v(8))), rec(v(1), v(7), v(0), v(8))},
		{rec(v(1), v(7), app(v(2), v(1), v(0)), of(api.Suc, v(8))),
			app(v(0), v(8), rec(v(1), v(7), app(v(2), v(1), v(0)), v(8)))},
		{spl(quo(v(7))), v(7)},
		{quo(spl(v(7))), v(7)},
	} {
		becomes(t, x.from, x.to)
	}
}

// P501: the document's example.
func TestExample(t *testing.T) {
	a := app(lam(nat(), of(api.Suc, v(0))), num(1))
	becomes(t, of(api.Fst, pairOf(of(api.Sig, nat(), nat()), a, num(5))), num(2))
}

// P501: Rec goes on to Zero, or till it stands at a variable.
func TestRec(t *testing.T) {
	for n := range 20 {
		becomes(t, rec(nat(), num(7), of(api.Suc, v(0)), num(n)), num(7+n))
		becomes(t, add(v(3), num(n)), sucs(n, v(3)))
		becomes(t, add(num(3), sucs(n, v(2))), sucs(n, add(num(3), v(2))))
		becomes(t, rec(nat(), num(9), v(1), num(n+1)), num(n)) // the one ahead of it
	}
	becomes(t, rec(nat(), num(7), of(api.Suc, v(0)), v(0)), rec(nat(), num(7), of(api.Suc, v(0)), v(0)))
	times := rec(nat(), zero(), add(v(0), num(3)), num(4))
	becomes(t, times, num(12))
	// both variables of s, below a binder of its own
	s := lam(nat(), app(v(3), v(2), app(v(1), v(0))))
	becomes(t, rec(of(api.Pi, nat(), nat()), v(5), s, num(2)),
		lam(nat(), app(v(1), num(1), app(v(1), zero(), app(v(6), v(0))))))
}

// P501: steps in each kid of each Op, however deep below binders.
func TestStepsInEachPlace(t *testing.T) {
	here := []step{
		{app(lam(v(5), v(0)), v(7)), v(7)},
		{of(api.Fst, pairOf(v(1), v(7), v(8))), v(7)},
		{of(api.Snd, pairOf(v(1), v(8), v(7))), v(7)},
		{rec(v(1), v(7), v(3), zero()), v(7)},
		{rec(v(1), v(8), v(9), of(api.Suc, v(8))), v(7)},
		{spl(quo(v(7))), v(7)},
		{quo(spl(v(7))), v(7)},
	}
	for op, n := range kidsByOp() {
		for kid := range n {
			for _, x := range here {
				becomes(t, holding(op, n, kid, x.from), holding(op, n, kid, x.to))
				from, to := x.from, x.to
				for range 3 {
					from, to = holding(op, n, kid, from), holding(op, n, kid, to)
				}
				becomes(t, lam(nat(), from), lam(nat(), to))
			}
		}
	}
}

// holding is a node of variables, but for one kid.
func holding(op, n, kid int, x api.Tm) api.Tm {
	out := of(op)
	for k := range n {
		if k == kid {
			out.Kids = append(out.Kids, x)
		} else {
			out.Kids = append(out.Kids, v(4+k))
		}
	}
	return out
}

// P501: in types: that of a Lam, the Sig of a Pair, a Rec's P, both parts of Pi and Sig, under Lift, of object code.
func TestStepsInTypes(t *testing.T) {
	type place func(a api.Tm) api.Tm
	idOf := func(a, x api.Tm) api.Tm { return app(lam(a, v(0)), x) }
	for _, at := range []place{
		func(a api.Tm) api.Tm { return lam(a, v(0)) },
		func(a api.Tm) api.Tm { return pairOf(of(api.Sig, a, a), v(1), v(2)) },
		func(a api.Tm) api.Tm { return rec(a, v(1), v(0), v(3)) },
		func(a api.Tm) api.Tm { return of(api.Pi, a, a) },
		func(a api.Tm) api.Tm { return of(api.Sig, a, a) },
		func(a api.Tm) api.Tm { return of(api.Pi, a, of(api.Sig, a, of(api.Pi, a, a))) },
	} {
		becomes(t, at(idOf(u(0), nat())), at(nat()))
		becomes(t, at(of(api.Fst, pairOf(of(api.Sig, u(0), u(0)), nat(), of(api.Ty)))), at(nat()))
		becomes(t, at(rec(u(0), nat(), of(api.Pi, nat(), v(1)), num(2))),
			at(of(api.Pi, nat(), of(api.Pi, nat(), nat()))))
	}
	for _, at := range []place{
		func(a api.Tm) api.Tm { return of(api.Lift, a) },
		func(a api.Tm) api.Tm { return of(api.TFun, a, of(api.TPro, a, a)) },
		func(a api.Tm) api.Tm { return of(api.OLam, a, v(0)) },
		func(a api.Tm) api.Tm { return of(api.OFix, a, v(0)) },
	} {
		becomes(t, at(idOf(of(api.Ty), of(api.TInt))), at(of(api.TInt)))
	}
}

// P501: steps that another one lays bare, in whatever was handed on.
func TestStepsLaidBare(t *testing.T) {
	fun := of(api.Pi, nat(), nat())
	sig := of(api.Sig, fun, nat())
	suc := lam(nat(), of(api.Suc, v(0)))
	for _, x := range []step{
		{app(lam(fun, app(v(0), num(1))), suc), num(2)},
		{app(of(api.Fst, pairOf(sig, suc, zero())), num(3)), num(4)},
		{of(api.Snd, app(lam(nat(), pairOf(sig, suc, v(0))), num(3))), num(3)},
		{rec(nat(), zero(), v(1), app(suc, num(4))), num(4)},
		{rec(nat(), zero(), v(1), of(api.Snd, pairOf(sig, suc, num(5)))), num(4)},
		{app(rec(fun, suc, lam(nat(), app(v(1), app(v(1), v(0)))), num(3)), zero()), num(8)},
		{app(app(lam(nat(), lam(nat(), add(v(1), v(0)))), num(2)), num(3)), num(5)},
		{spl(app(lam(lifted(), v(0)), quo(i(3)))), i(3)},
		{quo(spl(app(lam(lifted(), v(0)), quo(i(3))))), quo(i(3))},
		{quo(spl(quo(spl(quo(spl(v(2))))))), v(2)},
		{spl(quo(spl(quo(spl(v(2)))))), spl(v(2))},
		{quo(plus(spl(app(lam(lifted(), v(0)), v(4))), spl(quo(plus(i(1), i(2)))))), quo(plus(spl(v(4)), plus(i(1), i(2))))},
		{app(lam(fun, lam(nat(), app(v(1), v(0)))), suc), lam(nat(), of(api.Suc, v(0)))},
		{app(lam(fun, rec(nat(), zero(), app(v(2), v(0)), num(3))), suc), num(3)},
	} {
		becomes(t, x.from, x.to)
	}
}

// P501: no step: object code is not run, nor what stands at a variable.
func TestNoStep(t *testing.T) {
	for _, x := range []api.Tm{
		of(api.OApp, of(api.OLam, of(api.TInt), v(0)), i(1)),
		of(api.OFst, of(api.OPair, i(1), i(2))), of(api.OSnd, of(api.OPair, i(1), i(2))),
		of(api.OIf, i(1), i(2), i(3)), of(api.OLet, i(1), plus(v(0), v(0))), of(api.OFix, of(api.TInt), v(0)),
		plus(i(1), i(2)), numbered(api.OPrim, api.PDiv, i(1), i(0)),
		app(v(0), v(1)), of(api.Fst, v(0)), of(api.Snd, v(1)), spl(v(0)), quo(v(0)),
		rec(nat(), zero(), v(0), v(2)), rec(nat(), zero(), v(0), app(v(1), num(3))),
		lam(nat(), app(v(3), v(0))), pairOf(of(api.Sig, nat(), nat()), of(api.Fst, v(1)), of(api.Snd, v(1))),
		v(0), v(3000), u(0), u(2), nat(), zero(), of(api.Ty), of(api.TInt), i(-5), quo(quo(v(0))), spl(spl(v(0))),
	} {
		becomes(t, x, x)
	}
}

// P501: free variables, put below binders and taken out from below them.
func TestFreeVariables(t *testing.T) {
	for n := range 5 {
		becomes(t, app(lam(nat(), v(n+1)), v(9)), v(n))
		becomes(t, lam(nat(), app(lam(nat(), v(n+1)), v(0))), lam(nat(), v(n)))
		becomes(t, app(lam(nat(), lam(nat(), lam(nat(), v(2)))), v(n)), lam(nat(), lam(nat(), v(n+2))))
		becomes(t, app(lam(nat(), rec(nat(), v(1), app(v(3), v(2)), v(1))), v(n)), rec(nat(), v(0), app(v(2), v(n+2)), v(0)))
		becomes(t, app(lam(nat(), of(api.OLet, v(1), of(api.OFix, v(2), v(2)))), v(n)), of(api.OLet, v(0), of(api.OFix, v(1), v(n+2))))
	}
	becomes(t, app(lam(nat(), v(3000)), v(0)), v(2999))
	becomes(t, app(lam(nat(), v(0)), v(3000)), v(3000))
	// a variable below more binders than it was: its number is what it must be, though no term may have it
	becomes(t, app(lam(nat(), lam(nat(), v(1))), v(3000)), lam(nat(), v(3001)))
}

// P501: what a step puts in two places is counted there by the binders of each.
func TestTwoPlaces(t *testing.T) {
	f := lam(nat(), app(v(4), v(0), v(1))) // v4, v1: outside it 3 and 0
	x := app(lam(of(api.Pi, nat(), nat()), of(api.Pi, app(v(0), v(5)), app(v(1), v(0)))), f)
	becomes(t, x, of(api.Pi, app(v(3), v(4), v(0)), app(v(4), v(0), v(1))))
}

// P501: one function of two arguments in turns, below any count of binders: neither sees the other one's.
func TestTwoArgumentsInTurns(t *testing.T) {
	f := lam(nat(), of(api.Suc, add(v(0), num(1))))
	product := rec(nat(), zero(), add(v(0), app(v(2), num(2))), app(v(0), num(3)))
	x, want := app(lam(of(api.Pi, nat(), nat()), product), f), num(20)
	y := x
	for range 10 {
		becomes(t, x, want)
		becomes(t, y, num(20))
		x, want, y = lam(nat(), x), lam(nat(), want), app(lam(nat(), y), num(1))
	}
}
