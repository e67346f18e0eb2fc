package stage

import (
	"testing"

	"thyrsus/api"
	"thyrsus/term"
)

// P1001: the document's example.
func TestExample(t *testing.T) {
	stages(t, spl(quo(i(3))), "i3")
}

// P1001: object code in which nothing is spliced comes as it was: none of it is run.
func TestNothingSpliced(t *testing.T) {
	id := oLam(whole(), v(0))
	for _, x := range []api.Tm{
		i(0), i(-7), i(1 << 62), id, oLam(tFun(whole(), tPro(whole(), whole())), oSnd(oApp(v(0), i(1)))), oApp(id, i(1)), oApp(oApp(oLam(whole(), oLam(whole(), v(1))), i(1)), i(2)),
		oPair(i(1), id), oFst(oPair(i(1), i(2))), oSnd(oPair(i(1), i(2))), oIf(i(1), i(2), i(3)), oIf(i(0), id, id), oLet(i(1), v(0)), oLet(id, oApp(v(0), oApp(v(0), i(4)))), oLet(i(1), i(2)),
		oFix(whole(), v(0)), oFix(whole(), i(1)), oFix(tFun(whole(), whole()), oLam(whole(), oIf(v(0), oApp(v(1), prim(api.PSub, v(0), i(1))), i(1)))),
		plus(i(1), i(2)), prim(api.PSub, i(1), i(2)), times(i(1), i(2)), prim(api.PDiv, i(1), i(0)), prim(api.PLes, i(1), i(2)),
	} {
		stages(t, x, term.Text(x))
		stages(t, spl(quo(x)), term.Text(x))
		stages(t, spl(app(lam(nat(), quo(x)), num(3))), term.Text(x))
	}
}

// P1001: functions that write code, pairs of codes, codes that are handed on.
func TestSplices(t *testing.T) {
	twice := write(quo(plus(spl(v(0)), spl(v(0)))))
	both := sig(lifted(), lifted())
	for _, x := range []struct {
		t    api.Tm
		want string
	}{
		{spl(app(write(v(0)), quo(i(3)))), "i3"},
		{spl(app(twice, quo(i(3)))), "(26/0 i3 i3)"},
		{spl(app(twice, app(twice, quo(i(3))))), "(26/0 (26/0 i3 i3) (26/0 i3 i3))"},
		{spl(app(twice, quo(plus(i(1), i(2))))), "(26/0 (26/0 i1 i2) (26/0 i1 i2))"},
		{spl(quo(spl(quo(spl(quo(i(5))))))), "i5"},
		{plus(spl(quo(i(1))), spl(quo(i(2)))), "(26/0 i1 i2)"},
		{spl(fst(pairOf(both, quo(i(1)), quo(i(2))))), "i1"},
		{spl(snd(pairOf(both, quo(i(1)), quo(i(2))))), "i2"},
		{spl(snd(app(write(pairOf(both, quo(i(1)), quo(times(spl(v(0)), i(2))))), quo(i(9))))), "(26/2 i9 i2)"},
		{spl(app(lam(pi(lifted(), lifted()), app(v(0), app(v(0), quo(i(1))))), twice)), "(26/0 (26/0 i1 i1) (26/0 i1 i1))"},
		{spl(app(lam(ty(), lam(lift(v(0)), quo(oPair(spl(v(0)), spl(v(0)))))), whole(), quo(i(1)))), "(22 i1 i1)"},
		{spl(app(lam(lift(tFun(whole(), whole())), quo(oApp(spl(v(0)), oApp(spl(v(0)), i(1))))), quo(oLam(whole(), plus(v(0), i(2)))))), "(21 (20 15 (26/0 v0 i2)) (21 (20 15 (26/0 v0 i2)) i1))"},
		{oIf(spl(quo(i(0))), oFst(oPair(spl(quo(i(1))), i(2))), oSnd(spl(quo(oPair(i(3), spl(quo(i(4)))))))), "(27 i0 (23 (22 i1 i2)) (24 (22 i3 i4)))"},
	} {
		stages(t, x.t, x.want)
	}
}

// P1001: splices below OLam, OFix and OLet, and what they splice below other binders.
func TestSplicesBelowBinders(t *testing.T) {
	twice := write(quo(plus(spl(v(0)), spl(v(0)))))
	// as many binders ahead of what is spliced as there are in what writes
	under := write(quo(oLam(whole(), oLet(i(1), plus(v(0), times(v(1), spl(v(2))))))))
	f := tFun(whole(), whole())
	for _, x := range []struct {
		t    api.Tm
		want string
	}{
		{oLam(whole(), spl(quo(v(0)))), "(20 15 v0)"},
		{oLam(whole(), spl(app(twice, quo(v(0))))), "(20 15 (26/0 v0 v0))"},
		{oLam(whole(), oLam(whole(), spl(app(twice, quo(plus(v(0), v(1))))))), "(20 15 (20 15 (26/0 (26/0 v0 v1) (26/0 v0 v1))))"},
		{oLam(whole(), spl(app(under, quo(v(0))))), "(20 15 (20 15 (28 i1 (26/0 v0 (26/2 v1 v2)))))"},
		{oLet(i(5), spl(app(under, quo(v(0))))), "(28 i5 (20 15 (28 i1 (26/0 v0 (26/2 v1 v2)))))"},
		{oLet(spl(app(twice, quo(i(5)))), spl(app(twice, quo(v(0))))), "(28 (26/0 i5 i5) (26/0 v0 v0))"},
		{oFix(f, oLam(whole(), oIf(v(0), spl(app(lam(lift(f), quo(oApp(spl(v(0)), plus(v(1), i(-1))))), quo(v(1)))), i(1)))), "(29 (16 15 15) (20 15 (27 v0 (21 v1 (26/0 v0 i-1)) i1)))"},
		{oFix(whole(), spl(app(twice, quo(v(0))))), "(29 15 (26/0 v0 v0))"},
		{oLam(whole(), oFix(whole(), oLet(v(1), spl(app(write(quo(oLet(spl(v(0)), plus(v(0), spl(v(1)))))), quo(plus(v(0), plus(v(1), v(2))))))))), "(20 15 (29 15 (28 v1 (28 (26/0 v0 (26/0 v1 v2)) (26/0 v0 (26/0 v1 (26/0 v2 v3)))))))"},
		{spl(quo(oLam(whole(), spl(quo(oLam(whole(), spl(quo(plus(v(0), v(1)))))))))), "(20 15 (20 15 (26/0 v0 v1)))"},
	} {
		stages(t, x.t, x.want)
	}
}

// P1001: a let in object code stays, and what it binds stands there once; so does a call.
func TestLetsAndCallsStay(t *testing.T) {
	pair := write(quo(oPair(spl(v(0)), oPair(spl(v(0)), spl(v(0))))))
	great := plus(times(i(2), i(3)), i(4))
	stages(t, oLet(great, spl(app(pair, quo(v(0))))), "(28 (26/0 (26/2 i2 i3) i4) (22 v0 (22 v0 v0)))")
	stages(t, oApp(oLam(whole(), spl(app(pair, quo(v(0))))), great), "(21 (20 15 (22 v0 (22 v0 v0))) (26/0 (26/2 i2 i3) i4))")
	// what writes a let, so that what is handed to it stands there once
	let := write(quo(oLet(spl(v(0)), plus(v(0), v(0)))))
	stages(t, spl(app(let, quo(great))), "(28 (26/0 (26/2 i2 i3) i4) (26/0 v0 v0))")
	stages(t, spl(app(let, app(let, quo(i(7))))), "(28 (28 i7 (26/0 v0 v0)) (26/0 v0 v0))")
	stages(t, oLet(oLam(whole(), v(0)), oApp(v(0), oApp(v(0), i(1)))), "(28 (20 15 v0) (21 v0 (21 v0 i1)))")
	stages(t, oLet(i(1), i(2)), "(28 i1 i2)") // it is not asked for
	stages(t, oFst(oLet(oPair(i(1), i(2)), v(0))), "(23 (28 (22 i1 i2) v0))")
}

// power writes x to a power that is known ahead.
func power(n, x api.Tm) api.Tm {
	return app(lam(nat(), write(rec(lifted(), quo(i(1)), quo(times(spl(v(2)), spl(v(0)))), v(1)))), n, x)
}

// P1001: a Rec that writes a power: of nought, of one, of more.
func TestPowers(t *testing.T) {
	want := "i1"
	for n := range 39 {
		stages(t, oLam(whole(), spl(power(num(n), quo(v(0))))), "(20 15 "+want+")")
		want = "(26/2 v0 " + want + ")"
	}
	stages(t, spl(power(num(0), quo(i(7)))), "i1")
	stages(t, spl(power(num(1), quo(i(7)))), "(26/2 i7 i1)")
	stages(t, spl(power(add(num(1), num(1)), quo(plus(i(7), i(8))))), "(26/2 (26/0 i7 i8) (26/2 (26/0 i7 i8) i1))")
	stages(t, oLet(plus(i(7), i(8)), spl(power(num(2), quo(v(0))))), "(28 (26/0 i7 i8) (26/2 v0 (26/2 v0 i1)))")
	stages(t, oLam(whole(), oLam(whole(), spl(power(num(1), power(num(2), quo(v(1))))))), "(20 15 (20 15 (26/2 (26/2 v1 (26/2 v1 i1)) i1)))")
	// the power is a part of a number that is reckoned
	stages(t, oLam(whole(), spl(power(snd(pairOf(sig(nat(), nat()), num(9), add(zero(), num(2)))), quo(v(0))))), "(20 15 (26/2 v0 (26/2 v0 i1)))")
	// the one ahead of it, in s: 3 + (2 + (1 + 0))
	stages(t, spl(rec(lifted(), quo(i(0)), quo(plus(spl(rec(lifted(), quo(i(1)), quo(plus(spl(v(0)), i(1))), v(1))), spl(v(0)))), num(2))), "(26/0 (26/0 i1 i1) (26/0 i1 i0))")
}

// curried is the type of functions of so many numbers; tuple that of so many numbers.
func curried(n api.Tm) api.Tm { return rec(ty(), whole(), tFun(whole(), v(0)), n) }

func tuple(n api.Tm) api.Tm { return rec(ty(), whole(), tPro(whole(), v(0)), n) }

// P1001: types of object code that are reckoned ahead.
func TestTypesAhead(t *testing.T) {
	stages(t, oLam(curried(num(0)), v(0)), "(20 15 v0)")
	stages(t, oLam(curried(num(1)), v(0)), "(20 (16 15 15) v0)")
	stages(t, oLam(curried(num(2)), v(0)), "(20 (16 15 (16 15 15)) v0)")
	stages(t, oLam(curried(add(num(1), num(1))), oApp(oApp(v(0), i(1)), i(2))), "(20 (16 15 (16 15 15)) (21 (21 v0 i1) i2))")
	stages(t, oFix(tuple(num(2)), v(0)), "(29 (17 15 (17 15 15)) v0)")
	stages(t, oFix(same(ty(), whole()), v(0)), "(29 15 v0)")
	stages(t, oLam(fst(pairOf(sig(ty(), nat()), tPro(whole(), whole()), zero())), oFst(v(0))), "(20 (17 15 15) (23 v0))")
	stages(t, oLam(app(lam(lifted(), whole()), quo(i(1))), v(0)), "(20 15 v0)")
	stages(t, oLam(whole(), oLam(app(lam(lifted(), tuple(num(1))), quo(v(0))), oPair(v(0), v(1)))), "(20 15 (20 (17 15 15) (22 v0 v1)))") // a type that names what is spliced, and does not look at it
	// code of a type that hangs on a number: as many arguments as that tells, thrown away
	many := rec(lift(curried(v(0))), quo(i(9)), quo(oLam(whole(), spl(v(1)))), num(3))
	stages(t, spl(many), "(20 15 (20 15 (20 15 i9)))")
	stages(t, oApp(oApp(oApp(spl(many), i(1)), i(2)), i(3)), "(21 (21 (21 (20 15 (20 15 (20 15 i9))) i1) i2) i3)")
	row := rec(lift(tuple(v(0))), quo(i(0)), quo(oPair(i(1), spl(v(0)))), num(3))
	stages(t, oSnd(oSnd(spl(row))), "(24 (24 (22 i1 (22 i1 (22 i1 i0)))))")
	// of any type
	id := lam(ty(), lam(lift(v(0)), quo(oApp(oLam(v(1), v(0)), spl(v(0))))))
	stages(t, spl(app(id, whole(), quo(i(1)))), "(21 (20 15 v0) i1)")
	stages(t, spl(app(id, tuple(num(1)), quo(oPair(i(1), i(2))))), "(21 (20 (17 15 15) v0) (22 i1 i2))")
}

// P1001: what has no type at stage 0 among no variables, and whose normal form is Plain all the same.
func TestOthersThatArePlain(t *testing.T) {
	answers(t, whole(), whole()) // a type of object code is no object code
	answers(t, v(0), v(0))
	answers(t, v(3000), v(3000))
	answers(t, oLam(whole(), plus(v(0), v(1))), oLam(whole(), plus(v(0), v(1))))
	answers(t, spl(quo(v(4))), v(4))
	answers(t, oLam(v(0), v(0)), oLam(v(0), v(0)))
	answers(t, tFun(whole(), same(ty(), whole())), tFun(whole(), whole()))
	answers(t, oApp(i(1), oPair(i(2), i(3))), oApp(i(1), oPair(i(2), i(3))))
	answers(t, oFst(i(1)), oFst(i(1)))
	answers(t, plus(whole(), spl(quo(whole()))), plus(whole(), whole()))
	answers(t, app(lam(nat(), i(1)), zero()), i(1))
	answers(t, app(lam(nat(), plus(v(0), v(1))), i(2)), plus(i(2), v(0)))
	answers(t, fst(pairOf(u(2), i(1), quo(i(2)))), i(1))
	answers(t, rec(u(0), i(1), lam(nat(), v(0)), zero()), i(1))
	answers(t, oApp(oLam(tPro(whole(), whole()), v(0)), i(3)), oApp(oLam(tPro(whole(), whole()), v(0)), i(3)))
}

// P1001: what has none, and whose normal form is not Plain, at its top or anywhere in it.
func TestOthersThatAreNot(t *testing.T) {
	l := []api.Tm{
		u(0), u(2), nat(), ty(), zero(), num(1), num(40), lam(nat(), v(0)), lam(lifted(), quo(spl(v(0)))), pi(nat(), nat()), sig(nat(), nat()), pairOf(sig(nat(), nat()), zero(), zero()), lifted(),
		quo(i(1)), quo(v(0)), spl(v(0)), spl(spl(quo(v(0)))), spl(app(v(0), quo(i(1)))), spl(fst(v(0))), spl(i(1)), app(v(0), i(1)), app(i(1), i(2)), fst(v(0)), snd(v(0)), fst(oPair(i(1), i(2))), rec(nat(), zero(), v(0), v(0)), suc(v(0)), suc(i(1)),
		spl(rec(lifted(), quo(i(1)), quo(spl(v(0))), v(0))), same(u(0), nat()), app(lam(nat(), v(0)), num(3)), power(num(1), quo(i(1))), app(lam(nat(), lam(nat(), v(1))), i(1)), quo(quo(i(1))),
	}
	for _, x := range l {
		refused(t, x, api.ErrStage)
		for _, op := range codeOps() {
			for kid := range kidsByOp()[op] {
				y := replaced(node(op, i(1)), kid, x)
				refused(t, y, api.ErrStage)
				refused(t, oLam(whole(), oIf(v(0), i(1), y)), api.ErrStage)
				refused(t, spl(quo(y)), api.ErrStage)
			}
		}
	}
	refused(t, oLam(nat(), i(1)), api.ErrStage)
	refused(t, oFix(same(u(0), nat()), v(0)), api.ErrStage)
	refused(t, oLam(lifted(), spl(v(0))), api.ErrStage)
}
