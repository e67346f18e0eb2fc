package kernel

import (
	"slices"
	"testing"

	"thyrsus/api"
)

// row is a node that has a type in room, and for each kid what is of another
// type than is asked of it, if anything is (else Op 0), with the error.
type row struct {
	stage int
	node  api.Tm
	other []other
}

type other struct {
	x api.Tm
	e api.Errno
}

// rows are one node of each Op with kids, two where one may stand in two ways.
func rows() []row {
	none, code := other{}, func(x api.Tm) other { return other{x, api.ErrType} }
	notNat, notTy, notInt := code(ty()), code(nat()), code(oPair(i(1), i(2)))
	noType := other{num(1), api.ErrShape}
	family := sig(nat(), app(v(6), v(0)))
	return []row{
		{1, pi(nat(), u(0)), []other{noType, noType}},
		{1, sig(nat(), app(v(6), v(0))), []other{noType, noType}},
		{1, lam(nat(), v(0)), []other{noType, none}},
		{1, app(v(0), v(7)), []other{{v(7), api.ErrShape}, notNat}},
		{1, pairOf(family, v(7), app(v(0), v(7))), []other{{nat(), api.ErrShape}, notNat, code(app(v(0), num(3)))}},
		{1, fst(v(1)), []other{{v(0), api.ErrShape}}},
		{1, snd(v(1)), []other{{v(0), api.ErrShape}}},
		{1, of(api.Suc, v(7)), []other{notNat}},
		{1, rec(nat(), v(7), v(0), v(7)), []other{noType, notNat, notNat, notNat}},
		{1, rec(app(v(6), v(0)), app(v(0), zero()), app(v(2), of(api.Suc, v(1))), v(7)), []other{noType, code(app(v(0), num(1))), code(v(0)), notNat}},
		{1, tFun(v(3), whole()), []other{notTy, notTy}},
		{1, tPro(v(3), whole()), []other{notTy, notTy}},
		{1, lift(v(3)), []other{notTy}},
		{1, quo(v(6)), []other{none}},
		{0, oLam(whole(), v(0)), []other{notTy, none}},
		{0, oApp(oLam(whole(), v(0)), v(6)), []other{{v(6), api.ErrShape}, notInt}},
		{0, oPair(v(6), v(2)), []other{none, none}},
		{0, of(api.OFst, oPair(v(6), v(2))), []other{{v(6), api.ErrShape}}},
		{0, of(api.OSnd, oPair(v(6), v(2))), []other{{v(6), api.ErrShape}}},
		{0, plus(v(6), i(1)), []other{notInt, notInt}},
		{0, oIf(v(6), v(2), v(2)), []other{notInt, none, notInt}},
		{0, oLet(v(6), v(0)), []other{none, none}},
		{0, oFix(whole(), v(0)), []other{notTy, notInt}},
		{0, spl(v(4)), []other{{zero(), api.ErrShape}}},
	}
}

// stageOfKid is that of a kid of a node of object code, or of programs.
func stageOfKid(op, kid int) int {
	switch {
	case op == api.Quo:
		return 0
	case op == api.Spl, kid == 0 && (op == api.OLam || op == api.OFix):
		return 1
	case op >= api.OLam:
		return 0
	}
	return 1
}

// faults are terms with an error of their own, at a stage.
func faults(stage int) []other {
	if stage == 1 {
		return []other{{v(2000), api.ErrName}, {i(1), api.ErrStage}, {of(api.Suc, ty()), api.ErrType}, {app(zero(), zero()), api.ErrShape}, {u(2), api.ErrLevel},
			{quo(oLet(i(1), spl(v(2000)))), api.ErrName}}
	}
	open := oLam(whole(), spl(app(lam(lift(whole()), quo(oPair(i(1), i(2)))), v(2000))))
	return []other{{v(2000), api.ErrName}, {zero(), api.ErrStage}, {plus(i(1), oPair(i(1), i(1))), api.ErrType}, {oApp(i(1), i(1)), api.ErrShape},
		{open, api.ErrName}, {spl(u(2)), api.ErrLevel}}
}

// replaced is x with another kid.
func replaced(x api.Tm, kid int, y api.Tm) api.Tm {
	x.Kids = slices.Clone(x.Kids)
	x.Kids[kid] = y
	return x
}

// bad are all that may stand in the place of a kid, with the errors.
func (r row) bad(kid int) []other {
	l := faults(stageOfKid(r.node.Op, kid))
	if o := r.other[kid]; o.x.Op != 0 {
		l = append(l, o)
	}
	return l
}

// P701: the error of each part, ahead of those of all the parts behind it.
func TestOrderOfErrors(t *testing.T) {
	g := room()
	seen := map[int]bool{}
	for _, r := range rows() {
		seen[r.node.Op] = true
		if _, e := Infer(g, r.stage, r.node); e != api.OK {
			t.Fatalf("%s: %v", short(r.node), e)
		}
		for kid := range r.node.Kids {
			for _, x := range r.bad(kid) {
				one := replaced(r.node, kid, x.x)
				refused(t, g, r.stage, one, x.e)
				refused(t, g, 1-r.stage, one, api.ErrStage)
				for later := kid + 1; later < len(one.Kids); later++ {
					for _, y := range r.bad(later) {
						refused(t, g, r.stage, replaced(one, later, y.x), x.e)
					}
				}
			}
		}
	}
	for op, n := range kidsByOp() {
		if n > 0 && !seen[op] {
			t.Errorf("no row of %d", op)
		}
	}
}

// P701: ErrName of a variable ahead of ErrStage, that ahead of its type's error.
func TestOrderOfVariables(t *testing.T) {
	g := room().with(1, deepType())
	stands(t, g)
	refused(t, g, 0, v(0), api.ErrStage)
	refused(t, g, 1, v(0), api.ErrDeep)
	refused(t, g, 0, v(9), api.ErrName)
	refused(t, g, 5, v(9), api.ErrName)
	refused(t, g, 5, v(0), api.ErrStage)
	refused(t, g, 1, lam(nat(), pairOf(v(99), v(1), v(1))), api.ErrName)
	refused(t, g, 1, pairOf(sig(nat(), nat()), v(0), v(99)), api.ErrDeep)
}
