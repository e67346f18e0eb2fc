package stage

import (
	"math"
	"reflect"
	"slices"
	"sync"
	"testing"

	"thyrsus/api"
	"thyrsus/term"
)

// ends checks that each call ends, and that beside an error nothing is told.
func ends(t *testing.T, x api.Tm) {
	t.Helper()
	Plain(x)
	switch y, e := Stage(x); {
	case e != api.OK && !reflect.DeepEqual(y, api.Tm{}):
		t.Errorf("%v, and something", e)
	case e == api.OK && !Plain(y):
		t.Errorf("%s: not plain", short(y))
	}
}

// any is a term that has hardly ever a type.
func (d *die) any(deep int) api.Tm {
	ops := []int{api.Var, api.Lam, api.App, api.App, api.Pair, api.Fst, api.Snd, api.Rec, api.Quo, api.Spl, api.Spl, api.OLam, api.OApp, api.OLet, 1 + d.of(30)}
	op := ops[d.of(len(ops))]
	if deep == 1 {
		op = []int{api.Var, api.Var, api.Zero, api.TInt, api.OInt}[d.of(5)]
	}
	x := of(op)
	if op == api.Var {
		x.N = d.of(4)
	}
	for range kidsByOp()[op] {
		x.Kids = append(x.Kids, d.any(deep-1))
	}
	return x
}

// wild is what may be no term at all.
func (d *die) wild(deep int) api.Tm {
	x := d.any(1)
	x.Op, x.N = d.of(34)-1, d.of(9)-2
	if d.of(3) == 0 {
		x.Op, x.N = api.Var, int(d.next())>>d.of(64)
	}
	if d.of(20) == 0 {
		x.Op = int(d.next()) >> d.of(64)
	}
	if deep > 1 {
		for range d.of(6) {
			x.Kids = append(x.Kids, d.wild(deep-1))
		}
	}
	return x
}

// P1: terms without a type, things that are no terms.
func TestAnythingEnds(t *testing.T) {
	d := &die{131}
	for range 10000 {
		ends(t, d.any(2+d.of(7)))
		ends(t, d.wild(5))
	}
	some := []int{0, 1, -1, 2, 3, 30, 31, 3000, 3001, 1 << 31, math.MinInt, math.MaxInt}
	for _, n := range some {
		for _, k := range some {
			ends(t, app(lam(v(k), v(n)), v(k)))
			ends(t, of(n, v(k)))
			ends(t, numbered(n, k))
			ends(t, numbered(api.Rec, n, v(k), v(n), v(k), numbered(api.Suc, k, v(n))))
			ends(t, numbered(api.OLam, n, v(k), of(k), numbered(api.OPrim, n)))
		}
	}
}

// P1: each Op with any count of kids.
func TestWrongKids(t *testing.T) {
	for op := -1; op <= api.Spl+2; op++ {
		for inner := -1; inner <= api.Spl+2; inner++ {
			for n := range 6 {
				x := of(op)
				for k := range n {
					x.Kids = append(x.Kids, of(inner, x.Kids[:k]...))
				}
				ends(t, x)
				ends(t, oPair(i(1), x))
				ends(t, spl(x))
			}
		}
	}
}

// endless is a node that holds itself, so many times.
func endless(op, times int) api.Tm {
	l := make([]api.Tm, times)
	for k := range l {
		l[k] = api.Tm{Op: op, Kids: l}
	}
	return l[0]
}

// P1: steps without end, what is deeper than the stack of calls, endless, or too great to go through.
func TestGreatThingsEnd(t *testing.T) {
	shared, lams, pairs := v(0), v(0), i(0)
	for range 60 {
		shared = oApp(shared, shared)
	}
	for range 1 << 18 {
		lams, pairs = oLam(whole(), lams), oPair(pairs, v(0))
	}
	l := []api.Tm{shared, lams, pairs, of(api.OApp, make([]api.Tm, 1<<20)...), of(api.OInt, slices.Repeat([]api.Tm{i(1)}, 1<<20)...)}
	for op := range kidsByOp() {
		for times := 1; times < 5; times++ {
			l = append(l, endless(op, times))
		}
	}
	for _, fn := range []api.Tm{lam(nat(), app(v(0), v(0))), lam(nat(), app(v(0), v(0), v(0))), lam(nat(), suc(app(v(0), v(0)))), lam(nat(), quo(spl(app(v(0), v(0)))))} {
		l = append(l, app(fn, fn), lam(nat(), app(fn, fn)))
	}
	for _, x := range l {
		ends(t, x)
		ends(t, spl(x))
		ends(t, oPair(i(1), x))
		ends(t, app(lam(nat(), oApp(v(0), v(0))), x))
	}
	stages(t, spl(quo(i(3))), "i3") // P3: nothing is left of them
}

// spared is a copy of a term, each list with spare room that is filled with marks.
func spared(x api.Tm) api.Tm {
	l := make([]api.Tm, 0, len(x.Kids)+3)
	for _, kid := range x.Kids {
		l = append(l, spared(kid))
	}
	all := l[:cap(l)]
	for k := len(l); k < cap(l); k++ {
		all[k] = v(77)
	}
	x.Kids = l
	return x
}

// opened is a copy of a term with the spare room of its lists as parts of them.
func opened(x api.Tm) api.Tm {
	x.Kids = slices.Clone(x.Kids[:cap(x.Kids)])
	for k := range x.Kids {
		x.Kids[k] = opened(x.Kids[k])
	}
	return x
}

// P2: what is handed in stays as it is, its spare room too; empty lists are the same as none.
func TestWhatIsHandedInStays(t *testing.T) {
	d := &die{31}
	for _, x := range manyTyped(30001, 300) {
		for k := range 4 {
			if k > 0 {
				x = d.mutated(x)
			}
			want, e := Stage(x)
			y := spared(x)
			kept := opened(y)
			if got, f := Stage(y); f != e || !term.Same(got, want) || Plain(x) != Plain(y) {
				t.Errorf("%s: %s, %v, not %s, %v", short(y), short(got), f, short(want), e)
			}
			if !reflect.DeepEqual(opened(y), kept) {
				t.Errorf("%s: changed", short(y))
			}
		}
	}
	stages(t, api.Tm{Op: api.OInt, N: 4, Kids: []api.Tm{}}, "i4")
}

// lists gathers where the lists of a term stand; it tells whether one was met before.
func lists(x api.Tm, seen map[*api.Tm]bool) bool {
	twice := false
	if cap(x.Kids) > 0 {
		at := &x.Kids[:cap(x.Kids)][0]
		twice, seen[at] = seen[at], true
	}
	for _, kid := range x.Kids {
		if lists(kid, seen) {
			twice = true
		}
	}
	return twice
}

// P2: an answer is new, and no two of its lists are the same, where nothing is run and where one code is put in many places.
func TestAnswersAreNew(t *testing.T) {
	p := plus(i(1), times(i(2), i(3)))
	l := []api.Tm{p, oPair(p, p), spl(quo(p)), spl(app(write(quo(oPair(spl(v(0)), spl(v(0))))), quo(p))), spl(doubled(5, p)), oLam(same(ty(), tFun(whole(), whole())), spl(power(num(4), quo(oApp(v(0), p)))))}
	for _, x := range append(l, manyTyped(50001, 500)...) {
		seen := map[*api.Tm]bool{}
		lists(x, seen)
		for range 2 {
			if y, e := Stage(x); e != api.OK || lists(y, seen) {
				t.Errorf("%s: %v, or shared", short(x), e)
			}
		}
	}
}

// P2, P3: nothing is kept, so the same calls answer the same, and others anew.
func TestNothingIsKept(t *testing.T) {
	x := oLam(whole(), spl(power(num(2), quo(v(0)))))
	for range 5 {
		y, _ := Stage(x)
		if term.Text(y) != "(20 15 (26/2 v0 (26/2 v0 i1)))" {
			t.Fatalf("%s", short(y))
		}
		y.Kids[0] = nat()
		y.Kids[1].Kids[1].Kids[0].N = 99
		isPlain(t, y, false)
		f := x.Kids[1].Kids[0]
		f.Kids[1].Kids[0] = i(5)
		stages(t, x, "(20 15 (26/2 i5 (26/2 i5 i1)))")
		f.Kids[1].Kids[0] = zero()
		refused(t, x, api.ErrStage)
		f.Kids[1].Kids[0] = v(0)
		x.Kids[0] = nat()
		refused(t, x, api.ErrStage)
		x.Kids[0] = whole()
	}
}

// P3: the same calls answer the same, side by side too.
func TestSideBySide(t *testing.T) {
	l := manyTyped(40001, 300)
	d := &die{41}
	for k := range l {
		if k%3 == 0 {
			l[k] = d.mutated(l[k])
		}
	}
	var group sync.WaitGroup
	for range 4 {
		group.Go(func() {
			for _, x := range l {
				a, e := Stage(x)
				b, f := Stage(x)
				if e != f || !reflect.DeepEqual(a, b) || Plain(a) != Plain(b) || Plain(x) != Plain(spared(x)) {
					t.Errorf("%s: %v, %v", short(x), e, f)
				}
			}
		})
	}
	group.Wait()
}
