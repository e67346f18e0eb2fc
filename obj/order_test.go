package obj

import (
	"testing"

	"thyrsus/api"
)

// other is a term that may not stand somewhere, with the error.
type other struct {
	x api.Tm
	e api.Errno
}

// row is code that has a type among several, and for each part what has a
// type, but not one that may stand there.
type row struct {
	node  api.Tm
	other [][]other
}

// rows are some of each Op that has parts.
func rows() []row {
	notInt := []other{{v(1), api.ErrType}, {v(2), api.ErrType}, {oPair(i(1), i(2)), api.ErrType}}
	noFun := []other{{v(0), api.ErrShape}, {v(3), api.ErrShape}, {i(1), api.ErrShape}}
	noPair := []other{{v(0), api.ErrShape}, {v(1), api.ErrShape}, {i(1), api.ErrShape}}
	notFun := []other{{v(0), api.ErrType}, {v(2), api.ErrType}, {oLam(p(), i(1)), api.ErrType}, {oLam(whole(), v(3)), api.ErrType}}
	noType := []other{{v(0), api.ErrStage}, {v(3000), api.ErrStage}, {nat(), api.ErrStage}, {tFun(whole(), i(1)), api.ErrStage}, {tPro(ty(), f()), api.ErrStage}}
	return []row{
		{oLam(whole(), v(0)), [][]other{noType, nil}},
		{oApp(v(1), v(0)), [][]other{noFun, notInt}},
		{oApp(oLam(f(), v(1)), v(1)), [][]other{noFun, notFun}},
		{oPair(v(1), v(0)), [][]other{nil, nil}},
		{oFst(v(3)), [][]other{noPair}},
		{oSnd(v(3)), [][]other{noPair}},
		{plus(v(0), i(1)), [][]other{notInt, notInt}},
		{prim(api.PLes, i(1), v(0)), [][]other{notInt, notInt}},
		{oIf(v(0), i(1), i(2)), [][]other{notInt, nil, notInt}},
		{oIf(v(0), v(1), oLam(whole(), i(2))), [][]other{notInt, nil, notFun}},
		{oLet(v(0), v(0)), [][]other{nil, nil}},
		{oFix(whole(), v(0)), [][]other{noType, notInt[2:]}},
		{oFix(f(), v(0)), [][]other{noType, {{v(1), api.ErrType}, {i(1), api.ErrType}, {oLam(p(), i(1)), api.ErrType}}}},
	}
}

// faults are terms with an error of their own.
func faults() []other {
	return []other{
		{v(2000), api.ErrName}, {oApp(i(1), v(2000)), api.ErrShape}, {oApp(v(2000), v(0)), api.ErrName}, {oFst(i(1)), api.ErrShape}, {plus(i(1), oPair(i(1), i(2))), api.ErrType}, {plus(oPair(i(1), i(2)), v(2000)), api.ErrType},
		{num(1), api.ErrStage}, {whole(), api.ErrStage}, {spl(v(2000)), api.ErrStage}, {oLam(quo(i(1)), v(2000)), api.ErrStage}, {doubled(12, i(1)), api.ErrDeep},
	}
}

// bad are all that may not stand in a part's place.
func (r row) bad(kid int) []other {
	l := r.other[kid]
	if written := kid == 0 && (r.node.Op == api.OLam || r.node.Op == api.OFix); !written {
		l = append(faults(), l...)
	}
	return l
}

// P1101: each rule broken in each of its parts; the error of a part is told ahead of those of all the parts behind it.
func TestOrderOfErrors(t *testing.T) {
	g := several()
	seen := map[int]bool{}
	for _, r := range rows() {
		seen[r.node.Op] = true
		if _, e := Infer(g, r.node); e != api.OK {
			t.Fatalf("%s: %v", short(r.node), e)
		}
		for kid := range r.node.Kids {
			for _, x := range r.bad(kid) {
				one := replaced(r.node, kid, x.x)
				refused(t, g, one, x.e)
				refused(t, g, oLet(one, v(2000)), x.e)
				refused(t, g, oPair(oPair(i(1), one), whole()), x.e)
				for later := kid + 1; later < len(one.Kids); later++ {
					for _, y := range r.bad(later) {
						refused(t, g, replaced(one, later, y.x), x.e)
					}
				}
			}
		}
	}
	for op, n := range kidsByOp() {
		if n > 0 && op >= api.OLam && op != api.Spl && !seen[op] {
			t.Errorf("no row of %d", op)
		}
	}
}

// P1101: what a part is told to be must be of the form first, then the other parts are asked, and held against it.
func TestOrderWithinAPart(t *testing.T) {
	g := several()
	refused(t, g, oApp(v(3), v(2000)), api.ErrShape)
	refused(t, g, oApp(v(1), v(2000)), api.ErrName)
	refused(t, g, oApp(v(1), v(1)), api.ErrType)
	refused(t, g, oApp(v(2000), v(1)), api.ErrName)
	refused(t, g, oApp(v(1), oApp(v(1), v(1))), api.ErrType)
	refused(t, g, oApp(v(1), oApp(v(0), v(1))), api.ErrShape)
	refused(t, g, oApp(oFst(v(2)), whole()), api.ErrShape)
	refused(t, g, oApp(oApp(v(1), v(0)), v(2000)), api.ErrShape)
	refused(t, g, plus(v(1), v(2000)), api.ErrType)
	refused(t, g, plus(v(0), v(2000)), api.ErrName)
	refused(t, g, plus(v(1), num(1)), api.ErrType)
	refused(t, g, oIf(v(1), v(2000), num(1)), api.ErrType)
	refused(t, g, oIf(v(0), v(2000), num(1)), api.ErrName)
	refused(t, g, oIf(v(0), v(1), num(1)), api.ErrStage)
	refused(t, g, oIf(v(0), v(1), v(0)), api.ErrType)
	refused(t, g, oLet(oFst(v(0)), v(2000)), api.ErrShape)
	refused(t, g, oLet(v(0), v(2000)), api.ErrName)
	refused(t, g, oFix(f(), oLam(whole(), v(2000))), api.ErrName)
	refused(t, g, oFix(f(), oLam(whole(), v(1))), api.ErrType)
	refused(t, g, oFix(v(0), v(2000)), api.ErrStage)
	refused(t, g, oLam(whole(), oFix(f(), v(1))), api.ErrType)
}
