package kernel

import (
	"strconv"
	"testing"

	"thyrsus/api"
)

// P701: U, Pi, Sig and the levels.
func TestUniverses(t *testing.T) {
	g := room()
	infers(t, g, 1, u(0), "U1")
	infers(t, g, 1, u(1), "U2")
	refused(t, g, 1, u(2), api.ErrLevel)
	for _, op := range []int{api.Pi, api.Sig} {
		infers(t, g, 1, of(op, nat(), app(v(6), v(0))), "U0")
		infers(t, g, 1, of(op, u(0), v(0)), "U1")
		infers(t, g, 1, of(op, u(1), v(0)), "U2")
		infers(t, g, 1, of(op, u(0), of(op, v(0), v(1))), "U1")
		infers(t, g, 1, of(op, u(0), of(op, v(0), u(1))), "U2")
		refused(t, g, 1, of(op, num(1), nat()), api.ErrShape)
		refused(t, g, 1, of(op, whole(), nat()), api.ErrShape) // a type of object code is none of programs
		refused(t, g, 1, of(op, nat(), v(0)), api.ErrShape)
		refused(t, g, 1, of(op, nat(), v(4)), api.ErrShape)
		refused(t, g, 1, of(op, nat(), v(8)), api.ErrShape)
		refused(t, g, 1, of(op, u(2), num(1)), api.ErrLevel)
		refused(t, g, 1, of(op, nat(), u(2)), api.ErrLevel)
		refused(t, g, 1, of(op, num(1), u(2)), api.ErrShape)
		refused(t, g, 1, of(op, v(6), v(99)), api.ErrStage)
		refused(t, g, 1, of(op, nat(), v(9)), api.ErrName)
	}
}

// P701: the greater level of two, and no universe has what another one has.
func TestLevels(t *testing.T) {
	g := room()
	types := []struct {
		a     api.Tm
		level int
	}{
		{nat(), 0}, {ty(), 0}, {lift(whole()), 0}, {app(v(5), num(1)), 0}, {pi(nat(), ty()), 0},
		{u(0), 1}, {pi(u(0), nat()), 1}, {sig(nat(), pi(nat(), u(0))), 1}, {u(1), 2}, {sig(nat(), u(1)), 2}, {pi(u(1), u(0)), 2},
	}
	for _, x := range types {
		infers(t, g, 1, x.a, "U"+strconv.Itoa(x.level))
		for _, y := range types {
			want := "U" + strconv.Itoa(max(x.level, y.level))
			infers(t, g, 1, pi(x.a, skipped(y.a)), want)
			infers(t, g, 1, sig(x.a, skipped(y.a)), want)
		}
		for n := range 3 {
			want := api.ErrType
			if n == x.level {
				want = api.OK
			}
			checks(t, g, 1, x.a, u(n), want)
			if n < 2 {
				_, e := Infer(g, 1, app(lam(u(n), v(0)), x.a))
				if e != want {
					t.Errorf("%s among U%d: %v, not %v", short(x.a), n, e, want)
				}
			}
		}
	}
}

// P701: Lam.
func TestFunctions(t *testing.T) {
	g := room()
	infers(t, g, 1, lam(nat(), app(v(1), v(0))), "(3 10 (5 v6 v0))")
	infers(t, g, 1, lam(nat(), nat()), "(3 10 U0)")
	infers(t, g, 1, lam(u(0), lam(v(0), v(0))), "(3 U0 (3 v0 v1))")
	infers(t, g, 1, lam(u(0), lam(pi(v(0), nat()), lam(v(1), app(v(1), v(0))))), "(3 U0 (3 (3 v0 10) (3 v1 10)))")
	infers(t, g, 1, lam(u(1), v(0)), "(3 U1 U1)")
	infers(t, g, 1, lam(same(u(1), u(0)), v(0)), "(3 U0 U0)")
	infers(t, g, 1, lam(app(v(5), add(num(1), v(7))), zero()), "(3 (5 v5 (13 10 (12 11) (12 v0) v7)) 10)")
	infers(t, g, 1, lam(ty(), lam(lift(v(0)), quo(spl(v(0))))), "(3 14 (3 (18 v0) (18 v1)))")
	refused(t, g, 1, lam(num(1), v(99)), api.ErrShape)
	refused(t, g, 1, lam(v(3), v(0)), api.ErrShape) // t: Ty
	refused(t, g, 1, lam(whole(), v(0)), api.ErrShape)
	refused(t, g, 1, lam(u(2), v(99)), api.ErrLevel)
	refused(t, g, 1, lam(nat(), u(2)), api.ErrLevel)
	refused(t, g, 1, lam(nat(), i(1)), api.ErrStage)
	refused(t, g, 1, lam(v(6), v(0)), api.ErrStage)
}

// P701: App.
func TestCalls(t *testing.T) {
	g := room()
	identity := lam(u(0), lam(v(0), v(0)))
	infers(t, g, 1, app(v(0), v(7)), "(5 v5 v7)")
	infers(t, g, 1, app(v(0), add(num(1), num(1))), "(5 v5 (12 (12 11)))")
	infers(t, g, 1, app(v(5), num(2)), "U0")
	infers(t, g, 1, app(identity, nat()), "(3 10 10)")
	infers(t, g, 1, app(identity, app(v(5), v(7))), "(3 (5 v5 v7) (5 v6 v8))")
	infers(t, g, 1, app(identity, app(v(5), v(7)), app(v(0), v(7))), "(5 v5 v7)")
	infers(t, g, 1, lam(nat(), app(identity, app(v(6), v(0)), app(v(1), v(0)))), "(3 10 (5 v6 v0))")
	refused(t, g, 1, app(v(7), v(99)), api.ErrShape)
	refused(t, g, 1, app(v(1), zero()), api.ErrShape)
	refused(t, g, 1, app(v(4), zero()), api.ErrShape)
	refused(t, g, 1, app(nat(), zero()), api.ErrShape)
	refused(t, g, 1, app(pi(nat(), nat()), zero()), api.ErrShape)
	refused(t, g, 1, app(quo(oLam(whole(), v(0))), quo(i(1))), api.ErrShape)
	refused(t, g, 1, app(v(0), ty()), api.ErrType)
	refused(t, g, 1, app(v(0), v(0)), api.ErrType)
	refused(t, g, 1, app(v(0), v(6)), api.ErrStage)
	refused(t, g, 1, app(v(8), v(6)), api.ErrName)
	refused(t, g, 1, app(identity, app(v(5), v(7)), app(v(0), num(1))), api.ErrType)
	refused(t, g, 1, app(identity, u(0)), api.ErrType)
}

// P701: types that must be made normal ahead of their shape.
func TestShapesThatAreReckoned(t *testing.T) {
	g := room()
	three := app(lam(u(0), lam(v(0), v(0))), arrows(num(1), num(2)), lam(nat(), lam(nat(), lam(nat(), v(1)))))
	infers(t, g, 1, three, "(3 10 (3 10 (3 10 10)))")
	infers(t, g, 1, app(three, num(0)), "(3 10 (3 10 10))")
	infers(t, g, 1, app(three, num(0), num(1), num(2)), "10")
	refused(t, g, 1, app(three, num(0), num(1), num(2), num(3)), api.ErrShape)

	h := g.with(1, pi(nat(), arrows(v(0), num(1))))
	stands(t, h)
	infers(t, h, 1, app(v(0), num(1)), "(3 10 (3 10 10))")
	infers(t, h, 1, app(v(0), num(1), num(7)), "(3 10 10)")
	infers(t, h, 1, app(v(0), v(8), num(7)), "(13 U0 10 (3 10 v1) v8)")
	refused(t, h, 1, app(v(0), v(8), num(1), num(2)), api.ErrShape) // how many there are hangs on n

	pairs := g.with(1, pi(nat(), rec(u(0), nat(), sig(nat(), v(1)), v(0))))
	stands(t, pairs)
	infers(t, pairs, 1, fst(app(v(0), num(2))), "10")
	infers(t, pairs, 1, snd(app(v(0), num(2))), "(6 10 10)")
	infers(t, pairs, 1, snd(snd(app(v(0), num(2)))), "10")
	refused(t, pairs, 1, snd(snd(snd(app(v(0), num(2))))), api.ErrShape)
	refused(t, pairs, 1, fst(app(v(0), v(8))), api.ErrShape)

	codes := g.with(1, pi(nat(), lift(rec(ty(), whole(), tFun(whole(), v(0)), v(0)))))
	stands(t, codes)
	infers(t, codes, 0, spl(app(v(0), num(2))), "(16 15 (16 15 15))")
	infers(t, codes, 0, oApp(spl(app(v(0), num(2))), i(1)), "(16 15 15)")
	infers(t, codes, 0, oApp(oApp(spl(app(v(0), num(2))), i(1)), i(2)), "15")
	refused(t, codes, 0, oApp(oApp(oApp(spl(app(v(0), num(2))), i(1)), i(2)), i(3)), api.ErrShape)
	refused(t, codes, 0, oApp(spl(app(v(0), v(8))), i(1)), api.ErrShape)
}

// P701: Pair.
func TestPairs(t *testing.T) {
	g := room()
	plainly, family := sig(nat(), nat()), sig(nat(), app(v(6), v(0)))
	infers(t, g, 1, pairOf(plainly, num(1), num(2)), "(6 10 10)")
	infers(t, g, 1, pairOf(same(u(0), plainly), num(1), num(2)), "(6 10 10)")
	infers(t, g, 1, pairOf(fst(pairOf(sig(u(0), v(0)), plainly, pairOf(plainly, num(1), num(2)))), num(1), num(2)), "(6 10 10)")
	infers(t, g, 1, pairOf(rec(u(0), nat(), sig(nat(), v(1)), num(1)), num(1), num(2)), "(6 10 10)")
	infers(t, g, 1, pairOf(family, v(7), app(v(0), v(7))), "(6 10 (5 v6 v0))")
	infers(t, g, 1, pairOf(family, num(2), app(v(0), add(num(1), num(1)))), "(6 10 (5 v6 v0))")
	infers(t, g, 1, pairOf(sig(nat(), app(v(6), add(v(0), num(1)))), num(1), app(v(0), num(2))), "(6 10 (5 v6 (12 v0)))")
	infers(t, g, 1, pairOf(sig(u(0), v(0)), nat(), num(1)), "(6 U0 v0)")
	refused(t, g, 1, pairOf(num(1), v(99), v(99)), api.ErrShape)
	refused(t, g, 1, pairOf(nat(), v(99), v(99)), api.ErrShape)
	refused(t, g, 1, pairOf(pi(nat(), nat()), num(1), num(1)), api.ErrShape)
	refused(t, g, 1, pairOf(app(v(5), v(7)), num(1), num(1)), api.ErrShape)
	refused(t, g, 1, pairOf(rec(u(0), nat(), sig(nat(), v(1)), v(7)), num(1), num(2)), api.ErrShape)
	refused(t, g, 1, pairOf(u(2), v(99), v(99)), api.ErrLevel)
	refused(t, g, 1, pairOf(sig(num(1), nat()), num(1), num(1)), api.ErrShape)
	refused(t, g, 1, pairOf(add(num(60), num(60)), num(1), num(1)), api.ErrShape) // it need not be normal yet
	refused(t, g, 1, pairOf(plainly, ty(), v(99)), api.ErrType)
	refused(t, g, 1, pairOf(plainly, num(1), ty()), api.ErrType)
	refused(t, g, 1, pairOf(plainly, num(1), i(1)), api.ErrStage)
	refused(t, g, 1, pairOf(sig(u(0), v(0)), nat(), nat()), api.ErrType)
	refused(t, g, 1, pairOf(family, v(7), app(v(0), num(1))), api.ErrType)
}

// P701: Fst and Snd.
func TestPartsOfPairs(t *testing.T) {
	g := room()
	family := sig(nat(), app(v(6), v(0)))
	infers(t, g, 1, fst(v(1)), "10")
	infers(t, g, 1, snd(v(1)), "(5 v5 (8 v1))")
	infers(t, g, 1, snd(pairOf(family, v(7), app(v(0), v(7)))), "(5 v5 v7)")
	infers(t, g, 1, snd(pairOf(sig(u(0), v(0)), nat(), num(1))), "10")
	infers(t, g, 1, fst(pairOf(sig(u(0), v(0)), nat(), num(1))), "U0")
	infers(t, g, 1, lam(family, snd(v(0))), "(3 (6 10 (5 v6 v0)) (5 v6 (8 v0)))")
	infers(t, g, 1, lam(sig(u(0), pi(v(0), v(1))), snd(v(0))), "(3 (6 U0 (3 v0 v1)) (3 (8 v0) (8 v1)))")
	infers(t, g, 1, lam(sig(u(0), sig(v(0), v(1))), snd(snd(v(0)))), "(3 (6 U0 (6 v0 v1)) (8 v0))")
	for _, op := range []int{api.Fst, api.Snd} {
		refused(t, g, 1, of(op, num(1)), api.ErrShape)
		refused(t, g, 1, of(op, v(0)), api.ErrShape)
		refused(t, g, 1, of(op, family), api.ErrShape)
		refused(t, g, 1, of(op, quo(oPair(i(1), i(2)))), api.ErrShape)
		refused(t, g, 1, of(op, v(6)), api.ErrStage)
		refused(t, g, 1, of(op, v(8)), api.ErrName)
	}
}

// P701: Nat, Zero, Suc, and Rec of one type.
func TestNumbers(t *testing.T) {
	g := room()
	infers(t, g, 1, nat(), "U0")
	infers(t, g, 1, zero(), "10")
	infers(t, g, 1, num(119), "10")
	infers(t, g, 1, of(api.Suc, v(7)), "10")
	refused(t, g, 1, of(api.Suc, nat()), api.ErrType)
	refused(t, g, 1, of(api.Suc, v(4)), api.ErrType)
	refused(t, g, 1, of(api.Suc, v(6)), api.ErrStage)
	refused(t, g, 1, of(api.Suc, i(1)), api.ErrStage)
	infers(t, g, 1, add(v(7), num(3)), "10")
	infers(t, g, 1, rec(nat(), num(1), add(v(1), v(0)), v(7)), "10")
	infers(t, g, 1, rec(u(0), nat(), pi(nat(), v(1)), v(7)), "U0")
	infers(t, g, 1, rec(u(1), u(0), v(0), v(7)), "U1")
	infers(t, g, 1, rec(nat(), num(1), v(1), num(2)), "10")
	infers(t, g, 1, rec(nat(), num(1), v(9), num(2)), "10") // n of outside
	infers(t, g, 1, rec(lift(whole()), v(4), quo(plus(spl(v(0)), v(8))), v(7)), "(18 15)")
	refused(t, g, 1, rec(num(1), v(99), v(99), v(99)), api.ErrShape)
	refused(t, g, 1, rec(v(0), v(99), v(99), v(99)), api.ErrShape) // the number, that is no type
	refused(t, g, 1, rec(whole(), v(99), v(99), v(99)), api.ErrShape)
	refused(t, g, 1, rec(u(2), v(99), v(99), v(99)), api.ErrLevel)
	refused(t, g, 1, rec(nat(), ty(), v(99), v(99)), api.ErrType)
	refused(t, g, 1, rec(nat(), zero(), ty(), v(99)), api.ErrType)
	refused(t, g, 1, rec(nat(), zero(), v(2), v(99)), api.ErrType) // f of outside
	refused(t, g, 1, rec(nat(), zero(), v(8), zero()), api.ErrStage)
	refused(t, g, 1, rec(nat(), zero(), v(10), zero()), api.ErrName)
	refused(t, g, 1, rec(nat(), zero(), v(0), ty()), api.ErrType)
	refused(t, g, 1, rec(nat(), zero(), v(0), i(3)), api.ErrStage)
	refused(t, g, 1, rec(u(0), nat(), v(1), zero()), api.ErrType) // the number, where h is asked for
}

// P701: Rec whose P names its number: as many arguments as the number tells.
func TestTypesThatCount(t *testing.T) {
	g := room()
	counted := rec(u(0), nat(), pi(nat(), v(1)), v(0))
	drop := func(n api.Tm) api.Tm { return rec(counted, num(4), lam(nat(), v(1)), n) }
	infers(t, g, 1, drop(num(0)), "10")
	infers(t, g, 1, drop(num(2)), "(3 10 (3 10 10))")
	infers(t, g, 1, drop(v(7)), "(13 U0 10 (3 10 v1) v7)")
	infers(t, g, 1, lam(nat(), drop(of(api.Suc, v(0)))), "(3 10 (3 10 (13 U0 10 (3 10 v1) v1)))")
	infers(t, g, 1, app(drop(num(2)), num(7), num(8)), "10")
	refused(t, g, 1, app(drop(v(7)), num(7)), api.ErrShape)
	refused(t, g, 1, rec(counted, lam(nat(), v(0)), v(99), v(99)), api.ErrType) // one argument more than none
	refused(t, g, 1, rec(counted, num(4), v(0), v(99)), api.ErrType)
	refused(t, g, 1, rec(counted, num(4), lam(nat(), lam(nat(), v(2))), v(99)), api.ErrType)
	refused(t, g, 1, rec(counted, num(4), lam(nat(), v(2)), v(99)), api.ErrType)
}

// P701: Rec of a family of types of outside: the type of each part.
func TestInduction(t *testing.T) {
	// v1: F Zero, v0: of a number, and what is of it, what is of the next one
	g := room().with(1, app(v(5), zero()))
	g = g.with(1, pi(nat(), pi(app(v(7), v(0)), app(v(8), of(api.Suc, v(1))))))
	stands(t, g)
	family, next := app(v(8), v(0)), app(v(2), v(1), v(0))
	infers(t, g, 1, rec(family, v(1), next, v(9)), "(5 v7 v9)")
	infers(t, g, 1, rec(family, v(1), next, num(2)), "(5 v7 (12 (12 11)))")
	infers(t, g, 1, lam(nat(), rec(app(v(9), v(0)), v(2), app(v(3), v(1), v(0)), v(0))), "(3 10 (5 v8 v0))")
	infers(t, g, 1, rec(family, app(v(2), num(0)), next, v(9)), "(5 v7 v9)") // by f
	infers(t, g, 1, rec(family, v(1), app(v(4), of(api.Suc, v(1))), v(9)), "(5 v7 v9)")
	infers(t, g, 1, rec(app(v(8), of(api.Suc, v(0))), app(v(2), num(1)), app(v(2), of(api.Suc, v(1)), v(0)), v(9)), "(5 v7 (12 v9))")
	refused(t, g, 1, rec(family, app(v(2), num(1)), v(99), v(99)), api.ErrType)
	refused(t, g, 1, rec(family, v(1), v(0), v(99)), api.ErrType)                               // of n, not of the next one
	refused(t, g, 1, rec(family, v(1), app(v(4), v(1)), v(99)), api.ErrType)                    // of n
	refused(t, g, 1, rec(family, v(1), app(v(2), of(api.Suc, v(1)), v(0)), v(99)), api.ErrType) // h is of n
	refused(t, g, 1, rec(family, v(1), app(v(2), v(0), v(0)), v(99)), api.ErrType)              // h is no number
	refused(t, g, 1, rec(family, v(1), app(v(4), of(api.Suc, v(11))), v(99)), api.ErrType)      // of the number of outside
	refused(t, g, 1, rec(family, v(1), next, v(1)), api.ErrType)
	refused(t, g, 1, rec(app(v(7), v(0)), v(1), next, v(9)), api.ErrShape) // q is no function
	refused(t, g, 1, rec(app(v(8), v(9)), v(1), next, v(9)), api.ErrStage) // x is of stage 0
}

// P701: Rec whose P names the nearest variable of outside, too.
func TestInductionBesideAVariable(t *testing.T) {
	g := besides()
	stands(t, g)
	family := app(v(3), v(0), v(1))
	infers(t, g, 1, rec(family, app(v(1), zero(), v(0)), app(v(3), of(api.Suc, v(1)), v(2)), num(1)), "(5 (5 v2 (12 11)) v0)")
	infers(t, g, 1, rec(family, app(v(1), zero(), v(0)), app(v(3), of(api.Suc, v(1)), v(2)), v(0)), "(5 (5 v2 v0) v0)")
	refused(t, g, 1, rec(family, app(v(1), zero(), v(0)), app(v(3), of(api.Suc, v(1)), v(1)), v(0)), api.ErrType)
	refused(t, g, 1, rec(family, app(v(1), zero(), v(0)), app(v(3), of(api.Suc, v(2)), v(2)), v(0)), api.ErrType)
	refused(t, g, 1, rec(family, app(v(1), zero(), zero()), v(99), v(99)), api.ErrType)
}

// besides is a context of v2, types of two numbers, v1: what is of them, and v0, a number.
func besides() ctx {
	g := ctx{}.with(1, pi(nat(), pi(nat(), u(0))))
	return g.with(1, pi(nat(), pi(nat(), app(v(2), v(1), v(0))))).with(1, nat())
}

// P701: Ty, TInt, TFun, TPro, Lift and Quo.
func TestTypesOfCode(t *testing.T) {
	g := room()
	infers(t, g, 1, ty(), "U0")
	infers(t, g, 1, whole(), "14")
	for _, op := range []int{api.TFun, api.TPro} {
		infers(t, g, 1, of(op, whole(), whole()), "14")
		infers(t, g, 1, of(op, whole(), v(3)), "14")
		infers(t, g, 1, of(op, of(op, v(3), same(ty(), whole())), v(3)), "14")
		refused(t, g, 1, of(op, nat(), v(99)), api.ErrType)
		refused(t, g, 1, of(op, whole(), nat()), api.ErrType)
		refused(t, g, 1, of(op, ty(), whole()), api.ErrType)
		refused(t, g, 1, of(op, whole(), lift(whole())), api.ErrType)
		refused(t, g, 1, of(op, whole(), v(6)), api.ErrStage)
		refused(t, g, 1, of(op, v(2), whole()), api.ErrStage)
		refused(t, g, 1, of(op, whole(), v(9)), api.ErrName)
	}
	infers(t, g, 1, lift(whole()), "U0")
	infers(t, g, 1, lift(tFun(v(3), whole())), "U0")
	refused(t, g, 1, lift(nat()), api.ErrType)
	refused(t, g, 1, lift(u(0)), api.ErrType)
	refused(t, g, 1, lift(v(2)), api.ErrStage)
	infers(t, g, 1, quo(i(3)), "(18 15)")
	infers(t, g, 1, quo(v(6)), "(18 15)")
	infers(t, g, 1, quo(v(2)), "(18 v3)")
	infers(t, g, 1, quo(oLam(v(3), v(0))), "(18 (16 v3 v3))")
	infers(t, g, 1, quo(spl(v(4))), "(18 15)")
	refused(t, g, 1, quo(v(7)), api.ErrStage)
	refused(t, g, 1, quo(num(1)), api.ErrStage)
	refused(t, g, 1, quo(quo(i(1))), api.ErrStage)
	refused(t, g, 1, quo(v(8)), api.ErrName)
	refused(t, g, 1, quo(oApp(i(1), i(1))), api.ErrShape)
}
