package conv

import (
	"testing"

	"thyrsus/api"
	"thyrsus/term"
)

// P601: the document's example, of functions of all shapes.
func TestExample(t *testing.T) {
	for _, f := range []api.Tm{
		v(0), v(7), app(v(2), zero()), fst(v(3)), snd(fst(v(1))), rec(pi(nat(), nat()), v(1), v(0), v(2)),
		fn(of(api.Suc, v(0))), fn(v(3)), fn(fn(app(v(4), v(0), v(1)))), app(fn(v(1)), num(3)),
	} {
		equal(t, f, wide(f), wide(wide(f)), wide(wide(wide(f))))
	}
	unlike(t, wide(v(0)), v(1), wide(v(2)), fn(app(v(5), v(1))))
}

// P601: the same normal form, and others.
func TestNormalForms(t *testing.T) {
	for n := range 12 {
		var l []api.Tm
		for k := range n + 1 {
			l = append(l, add(num(k), num(n-k)), sucs(k, num(n-k)))
		}
		equal(t, l...)
		asks(t, l[0], num(n+1), false)
	}
	equal(t, app(fn(v(0)), v(7)), v(7), fst(two(v(7), v(8))), snd(two(v(8), v(7))), rec(nat(), v(7), v(3), zero()),
		rec(nat(), v(8), v(9), num(1)), app(fn(v(8)), num(2)), app(fn(v(0)), app(fn(v(0)), v(7))))
	equal(t, quo(spl(v(2))), v(2), quo(spl(quo(spl(v(2))))), app(lam(of(api.Lift, of(api.TInt)), v(0)), v(2)))
	equal(t, quo(plus(i(1), spl(quo(i(2))))), quo(plus(i(1), i(2))), quo(spl(quo(plus(spl(quo(i(1))), i(2))))))
	equal(t, pi(nat(), nat()), pi(fst(pairOf(sig(u(1), u(1)), nat(), u(0))), nat()), app(lam(u(0), pi(v(0), v(1))), nat()))
	equal(t, add(v(0), num(2)), sucs(2, v(0)), of(api.Suc, add(v(0), num(1))))
	unlike(t, add(num(2), v(0)), sucs(2, v(0)), add(v(0), v(0)), num(2), v(0), add(num(3), v(0)))
}

// P601: each Op, its N and each of its kids counts, but for the types of Lam and Pair.
func TestEachPart(t *testing.T) {
	for op, n := range kidsByOp() {
		bare := holding(op, n, -1, api.Tm{})
		for kid := range n {
			other := replaced(bare, kid, v(9))
			free := kid == 0 && (op == api.Lam || op == api.Pair)
			asks(t, bare, other, free)
			asks(t, fn(bare), fn(other), free)
			asks(t, two(v(1), app(v(0), bare)), two(v(1), app(v(0), other)), free)
			asks(t, holding(op, n, kid, app(fn(v(0)), v(4+kid))), bare, true)
		}
		for other, k := range kidsByOp() {
			if k == n {
				asks(t, bare, holding(other, k, -1, api.Tm{}), op == other)
			}
		}
	}
	unlike(t, v(0), v(1), v(2), u(0), u(1), u(2), i(0), i(1), i(-1), nat(), zero(), of(api.Ty), of(api.TInt))
	var prims []api.Tm
	for p := api.PAdd; p <= api.PLes; p++ {
		prims = append(prims, quo(numbered(api.OPrim, p, v(0), v(1))))
	}
	unlike(t, prims...)
}

// P601: eta below binders, in arguments, in pairs, in types, in each kid of each Op.
func TestEtaInEachPlace(t *testing.T) {
	for _, x := range []api.Tm{wide(v(7)), whole(v(7)), whole(whole(v(7))), wide(whole(v(7))), whole(wide(v(7)))} {
		for op, n := range kidsByOp() {
			for kid := range n {
				asks(t, holding(op, n, kid, x), holding(op, n, kid, v(7)), true)
				asks(t, fn(holding(op, n, kid, x)), fn(holding(op, n, kid, v(7))), true)
			}
		}
	}
	f, p := v(1), v(2)
	equal(t, app(v(0), wide(f), whole(p)), app(v(0), f, p), app(v(0), wide(f), p), app(v(0), f, whole(p)))
	equal(t, two(wide(f), whole(p)), two(f, p), two(wide(wide(f)), two(fst(whole(p)), snd(p))))
	equal(t, fn(fn(app(v(5), v(1), v(0)))), v(3), fn(app(v(4), v(0))), wide(fn(app(v(4), v(0)))))
	equal(t, fn(two(fst(app(v(4), v(0))), snd(app(v(4), v(0))))), v(3))
	equal(t, two(fn(app(fst(v(2)), v(0))), fn(app(snd(v(2)), v(0)))), v(1), whole(v(1)), two(fst(v(1)), fn(app(snd(v(2)), v(0)))))
	equal(t, two(two(fst(fst(v(1))), snd(fst(v(1)))), snd(v(1))), v(1))
	equal(t, fn(app(v(1), fn(app(v(1), v(0))))), v(0), fn(app(v(1), v(0))))
	equal(t, fn(app(v(1), whole(v(0)))), v(0))
}

// P601: eta that a step lays bare, and one that is gone by a step.
func TestEtaAndSteps(t *testing.T) {
	fun := pi(nat(), nat())
	equal(t, app(lam(fun, wide(v(0))), v(5)), v(5), lam(nat(), app(fn(v(7)), num(2), v(0))), rec(fun, wide(v(5)), v(0), num(3)))
	equal(t, app(lam(sig(nat(), nat()), whole(v(0))), v(5)), v(5), two(fst(two(fst(v(5)), v(0))), snd(v(5))))
	equal(t, app(wide(v(3)), num(2)), app(v(3), num(2)))
	equal(t, fst(whole(v(3))), fst(v(3)))
	equal(t, app(wide(fn(of(api.Suc, v(0)))), num(2)), num(3))
	equal(t, spl(quo(spl(app(wide(v(1)), v(2))))), spl(app(v(1), v(2))))
	// what only a type that gives way has in it
	equal(t, fn(app(v(1), lam(v(0), v(0)), v(0))), app(v(0), lam(nat(), v(0))))
}

// P601: unlike types in Lam and Pair, which have the same in them otherwise; all other types count.
func TestTypesWritten(t *testing.T) {
	types := []api.Tm{nat(), u(0), u(1), pi(nat(), nat()), pi(nat(), sig(nat(), u(0))), of(api.Lift, of(api.TInt)), of(api.Ty), v(3), app(lam(u(1), v(0)), u(0))}
	for _, a := range types {
		for _, b := range types {
			asks(t, lam(a, v(0)), lam(b, v(0)), true)
			asks(t, lam(a, v(0)), lam(b, v(1)), false)
			asks(t, lam(a, app(v(1), v(0))), lam(b, app(v(1), v(0))), true)
			asks(t, pairOf(sig(a, b), v(0), v(1)), pairOf(sig(b, a), v(0), v(1)), true)
			asks(t, pairOf(sig(a, b), v(0), v(1)), pairOf(sig(a, b), v(1), v(0)), false)
			asks(t, pairOf(a, fst(v(0)), snd(v(0))), pairOf(b, fst(v(0)), snd(v(0))), true)
			asks(t, two(lam(a, lam(b, v(1))), pairOf(a, v(0), lam(b, v(0)))), two(lam(b, lam(a, v(1))), pairOf(b, v(0), lam(a, v(0)))), true)
		}
	}
	types = types[:8]
	for _, at := range []func(api.Tm) api.Tm{
		func(a api.Tm) api.Tm { return rec(a, v(0), v(0), v(1)) },
		func(a api.Tm) api.Tm { return pi(a, nat()) },
		func(a api.Tm) api.Tm { return pi(nat(), a) },
		func(a api.Tm) api.Tm { return sig(a, nat()) },
		func(a api.Tm) api.Tm { return sig(nat(), a) },
		func(a api.Tm) api.Tm { return of(api.Lift, a) },
		func(a api.Tm) api.Tm { return quo(of(api.OLam, a, v(0))) },
		func(a api.Tm) api.Tm { return quo(of(api.OFix, a, v(0))) },
	} {
		var l []api.Tm
		for _, a := range types {
			l = append(l, at(a))
			asks(t, at(a), at(app(lam(u(2), v(0)), a)), true)
		}
		unlike(t, l...)
	}
}

// P601: a Rec's P is compared, by what it comes to.
func TestRecsType(t *testing.T) {
	at := func(p api.Tm) api.Tm { return rec(p, v(0), v(0), v(1)) }
	equal(t, at(nat()), at(fst(pairOf(sig(u(1), u(1)), nat(), u(0)))), at(rec(u(0), nat(), nat(), zero())))
	equal(t, at(app(v(3), wide(v(2)))), at(app(v(3), v(2))), at(app(v(3), whole(v(2)))))
	equal(t, at(app(v(3), lam(nat(), v(0)))), at(app(v(3), lam(u(0), v(0)))))
	unlike(t, at(nat()), at(u(0)), at(v(0)), at(v(1)), at(rec(u(0), nat(), nat(), v(0))), at(pi(nat(), nat())), at(app(v(3), v(2))))
	asks(t, app(v(2), num(1), fn(fst(at(nat())))), app(v(2), num(1), fn(fst(at(u(0))))), false)
	asks(t, rec(nat(), v(0), v(0), num(3)), rec(u(0), v(0), v(0), num(3)), true) // it is gone by its steps
	// 0 is free in P, so nothing gives way
	asks(t, fn(app(rec(v(1), v(2), v(0), v(3)), v(0))), rec(v(0), v(1), v(0), v(2)), false)
	asks(t, fn(app(rec(v(0), v(2), v(0), v(3)), v(0))), rec(v(0), v(1), v(0), v(2)), true)
}

// P601: those that look alike, and are not equal.
func TestLookAlike(t *testing.T) {
	unlike(t, v(0), fn(app(v(0), v(1))), fn(app(v(1), v(1))), fn(app(v(0), v(0))), fn(app(v(1), of(api.Suc, v(0)))),
		fn(app(v(1), zero())), fn(app(v(2), v(0))), fn(app(v(1), v(2))), fn(v(0)), fn(v(1)), fn(app(v(1), v(0), v(0))))
	unlike(t, v(0), two(snd(v(0)), fst(v(0))), two(fst(v(0)), fst(v(0))), two(snd(v(0)), snd(v(0))), two(fst(v(0)), snd(v(1))),
		two(fst(v(1)), snd(v(0))), two(v(0), v(0)), two(fst(v(0)), snd(fst(v(0)))), fst(v(0)), snd(v(0)))
	unlike(t, two(v(0), v(1)), two(v(1), v(0)), two(v(0), v(0)), two(v(1), v(1)))
	unlike(t, fn(fn(v(0))), fn(fn(v(1))), fn(fn(v(2))), fn(fn(app(v(2), v(0), v(1)))), fn(fn(app(v(2), v(1), v(0)))))
	// no eta, and no steps, of object code
	unlike(t, quo(v(0)), quo(of(api.OLam, of(api.TInt), of(api.OApp, v(1), v(0)))), quo(of(api.OPair, of(api.OFst, v(0)), of(api.OSnd, v(0)))),
		quo(of(api.OApp, of(api.OLam, of(api.TInt), v(0)), v(0))), quo(of(api.OFst, of(api.OPair, v(0), v(0)))), quo(of(api.OLet, v(0), v(0))),
		quo(plus(v(0), i(0))), quo(of(api.OIf, i(1), v(0), v(0))))
	unlike(t, quo(plus(i(1), i(2))), quo(plus(i(2), i(1))), quo(i(3)), quo(plus(spl(v(0)), i(2))), quo(plus(i(1), spl(v(0)))))
	unlike(t, add(v(0), v(1)), add(v(1), v(0)), rec(nat(), v(0), of(api.Suc, v(1)), v(1)), rec(nat(), v(0), v(0), v(1)), rec(nat(), v(0), sucs(2, v(0)), v(1)))
}

// P601: free variables, near and far, and those that stand below other counts of binders.
func TestFreeVariables(t *testing.T) {
	for n := range 5 {
		equal(t, fn(v(n+1)), fn(app(fn(v(0)), v(n+1))), fn(app(fn(v(n+2)), v(0))))
		asks(t, fn(v(n+1)), fn(v(n)), false)
		equal(t, app(fn(fn(app(v(1), v(0)))), v(n)), v(n), fn(app(v(n+1), v(0))))
	}
	asks(t, v(3000), v(2999), false)
	asks(t, v(3000), app(fn(v(0)), v(3000)), true)
	asks(t, fn(app(v(3000), v(0))), v(2999), true)
	asks(t, app(fn(fn(v(1))), v(3000)), app(fn(fn(v(1))), v(2999)), false)
	asks(t, app(fn(fn(app(v(1), v(0)))), v(3000)), v(3000), true)
}

// P601: whole programs that run ahead.
func TestPrograms(t *testing.T) {
	fun := pi(nat(), nat())
	suc, twice := fn(of(api.Suc, v(0))), lam(fun, fn(app(v(1), app(v(1), v(0)))))
	equal(t, app(twice, suc), fn(add(v(0), num(2))), fn(sucs(2, v(0))), fn(app(suc, app(wide(suc), v(0)))))
	equal(t, app(twice, app(twice, suc)), fn(sucs(4, v(0))), rec(fun, fn(v(0)), fn(of(api.Suc, app(v(1), v(0)))), num(4)))
	unlike(t, app(twice, suc), suc, app(twice, app(twice, suc)), fn(num(2)))
	power := lam(of(api.Lift, of(api.TInt)), rec(of(api.Lift, of(api.TInt)), quo(i(1)), quo(numbered(api.OPrim, api.PMul, spl(v(2)), spl(v(0)))), v(1)))
	times := func(a, b api.Tm) api.Tm { return numbered(api.OPrim, api.PMul, a, b) }
	at := func(n int) api.Tm { return app(lam(nat(), power), num(n)) }
	equal(t, at(2), fn(quo(times(spl(v(0)), times(spl(v(0)), i(1))))), wide(at(2)))
	equal(t, app(at(2), quo(i(7))), quo(times(i(7), times(i(7), i(1)))))
	unlike(t, at(0), at(1), at(2), at(3))
	if term.Check(at(2)) != api.OK {
		t.Error("no term")
	}
}
