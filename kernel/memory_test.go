package kernel

import (
	"math"
	"reflect"
	"slices"
	"sync"
	"testing"

	"thyrsus/api"
	"thyrsus/term"
)

// ends checks that each call ends, at each stage, and that beside an error nothing is told.
func ends(t *testing.T, g ctx, x, a api.Tm) {
	t.Helper()
	for _, stage := range []int{0, 1, 2, -1, math.MinInt} {
		if b, e := Infer(g, stage, x); e != api.OK && (b.Op != 0 || b.N != 0 || len(b.Kids) > 0) {
			t.Errorf("%v, and something", e)
		}
		Check(g, stage, x, a)
	}
	Context(g)
}

// any is a term that has hardly ever a type.
func (d *die) any(deep int) api.Tm {
	ops := []int{api.Var, api.Lam, api.App, api.Pair, api.Fst, api.Snd, api.Rec, api.Quo, api.Spl, api.OLam, api.OApp, api.OLet, 1 + d.of(30)}
	op := ops[d.of(len(ops))]
	if deep == 1 {
		op = []int{api.Var, api.Var, api.Zero, api.Nat, api.TInt, api.OInt}[d.of(6)]
	}
	x := of(op)
	if op == api.Var {
		x.N = d.of(4)
	}
	for range kidsByOp()[op] {
		x.Kids = append(x.Kids, d.any(deep-1))
	}
	return x
}

// wild is what may be no term at all.
func (d *die) wild(deep int) api.Tm {
	x := d.any(1)
	x.Op, x.N = d.of(34)-1, d.of(9)-2
	if d.of(3) == 0 {
		x.Op, x.N = api.Var, int(d.next())>>d.of(64)
	}
	if d.of(20) == 0 {
		x.Op = int(d.next()) >> d.of(64)
	}
	if deep > 1 {
		for range d.of(6) {
			x.Kids = append(x.Kids, d.wild(deep-1))
		}
	}
	return x
}

// anyContext is some variables of any stages and types, which may be no terms.
func (d *die) anyContext() ctx {
	var g ctx
	for range d.of(5) {
		a := d.any(1 + d.of(4))
		switch d.of(4) {
		case 0:
			a = d.wild(4)
		case 1:
			a = d.meta(2).term()
		}
		g = g.with([]int{0, 1, 1, 0, 2, -1, int(d.next())}[d.of(7)], a)
	}
	return g
}

// P1: terms without a type, things that are no terms, contexts that are none.
func TestAnythingEnds(t *testing.T) {
	d := &die{131}
	for range 4000 {
		g := d.anyContext()
		ends(t, g, d.any(2+d.of(6)), d.any(2+d.of(6)))
		ends(t, g, d.wild(5), d.wild(5))
		ends(t, g, v(d.of(6)), d.wild(3))
	}
	some := []int{0, 1, -1, 2, 3, 30, 31, 3000, 3001, 1 << 31, math.MinInt, math.MaxInt}
	for _, n := range some {
		for _, k := range some {
			g := ctx{}.with(n, v(k)).with(1, pi(v(n), v(k))).with(0, of(n, v(k)))
			ends(t, g, lam(v(k), app(v(n), v(k))), v(n))
			ends(t, g, numbered(n, k), numbered(k, n))
			ends(t, g, numbered(api.Rec, n, v(k), v(n), v(k), numbered(api.Suc, k, v(n))), of(n, v(k)))
			ends(t, g, v(n), v(k))
		}
	}
}

// P1: variables whose types are of a wrong shape: each of them, used in each way.
func TestTypesOfWrongShapes(t *testing.T) {
	for _, op := range []int{api.Pi, api.Sig, api.TFun, api.TPro, api.Lift, api.U, api.Nat, api.Ty, 0, 77, -1} {
		for kids := range 4 {
			a := of(op)
			for k := range kids {
				a.Kids = append(a.Kids, v(k))
			}
			for stage := range 2 {
				g := ctx{}.with(stage, a)
				for _, x := range []api.Tm{v(0), app(v(0), v(0)), app(v(0), zero()), fst(v(0)), snd(v(0)), pairOf(v(0), v(0), v(0)), rec(v(1), v(0), v(1), v(0)), lam(v(0), v(0)), quo(v(0)), spl(v(0)),
					oApp(v(0), v(0)), of(api.OFst, v(0)), of(api.OSnd, v(0)), oLam(v(0), v(0)), oLet(v(0), v(1)), oFix(v(0), v(0)), oIf(v(0), v(0), v(0)), plus(v(0), v(0)), pi(v(0), v(1))} {
					ends(t, g, x, a)
				}
			}
		}
	}
}

// P1: types with steps without end.
func TestEndlessTypes(t *testing.T) {
	fn := func(b api.Tm) api.Tm { return lam(nat(), b) }
	self, more := fn(app(v(0), v(0))), fn(app(v(0), v(0), v(0)))
	grows, doubles := fn(of(api.Suc, app(v(0), v(0)))), fn(pi(app(v(0), v(0)), app(v(1), v(1))))
	for _, a := range []api.Tm{app(self, self), app(more, more), app(grows, grows), app(doubles, doubles), pi(nat(), app(self, self))} {
		for _, stage := range []int{0, 1} {
			g := ctx{}.with(stage, a)
			b, e := Infer(g, stage, v(0))
			if !heavy(e) || b.Op != 0 {
				t.Errorf("%s: %s, %v", short(a), short(b), e)
			}
			x := []api.Tm{i(1), zero()}[stage]
			if e := Check(nil, stage, x, a); !heavy(e) {
				t.Errorf("%s: %v", short(a), e)
			}
		}
		// such a type is refused ahead of its steps
		if e := Context(ctx{}.with(1, a)); e == api.OK || heavy(e) {
			t.Errorf("%s: %v", short(a), e)
		}
		ends(t, ctx{}.with(1, a).with(0, a), lam(a, v(0)), a)
		ends(t, nil, a, a)
	}
}

// endless is a node that holds itself, so many times.
func endless(op, times int) api.Tm {
	l := make([]api.Tm, times)
	for k := range l {
		l[k] = api.Tm{Op: op, Kids: l}
	}
	return l[0]
}

// P1: what is deeper than the stack of calls, endless, or too great to go through.
func TestGreatThingsEnd(t *testing.T) {
	shared, lams, apps := v(0), v(0), v(0)
	for range 60 {
		shared = app(shared, shared)
	}
	for range 1 << 18 {
		lams, apps = lam(nat(), lams), app(apps, v(0))
	}
	l := []api.Tm{shared, lams, apps, sucs(1<<18, v(0)), of(api.App, make([]api.Tm, 1<<18)...), of(api.Var, make([]api.Tm, 1<<18)...)}
	for op := range kidsByOp() {
		for times := 1; times < 5; times++ {
			l = append(l, endless(op, times))
		}
	}
	for k, x := range l {
		g := ctx{}.with(1, x).with(0, x)
		ends(t, g, x, l[(k+1)%len(l)])
		ends(t, g, pairOf(sig(nat(), nat()), v(1), v(1)), x)
		ends(t, g, oPair(v(0), v(0)), x)
		ends(t, g, app(v(1), zero()), x)
		ends(t, nil, zero(), x)
	}
	g := make(ctx, 1<<20)
	for k := range g {
		g[k] = api.Var1{Stage: 1, T: nat()}
	}
	isContext(t, g, api.OK)
	infers(t, g, 1, v(3000), "10")
	g[len(g)-1].Stage = 3
	isContext(t, g, api.ErrArg)
}

// spared is a copy of a term, each list with spare room that is filled with marks.
func spared(x api.Tm) api.Tm {
	l := make([]api.Tm, 0, len(x.Kids)+3)
	for _, kid := range x.Kids {
		l = append(l, spared(kid))
	}
	all := l[:cap(l)]
	for k := len(l); k < cap(l); k++ {
		all[k] = v(77)
	}
	x.Kids = l
	return x
}

// opened is a copy of a term with the spare room of its lists as parts of them.
func opened(x api.Tm) api.Tm {
	x.Kids = slices.Clone(x.Kids[:cap(x.Kids)])
	for k := range x.Kids {
		x.Kids[k] = opened(x.Kids[k])
	}
	return x
}

// sparedContext and openedContext do the same to a context.
func sparedContext(g ctx) ctx {
	l := make(ctx, 0, len(g)+5)
	for _, x := range g {
		l = append(l, api.Var1{Stage: x.Stage, T: spared(x.T)})
	}
	all := l[:cap(l)]
	for k := len(l); k < cap(l); k++ {
		all[k] = api.Var1{Stage: 1, T: v(78)}
	}
	return l
}

func openedContext(g ctx) ctx {
	g = slices.Clone(g[:cap(g)])
	for k := range g {
		g[k].T = opened(g[k].T)
	}
	return g
}

// P2: what is handed in stays as it is, its spare room too; empty lists are the same as none.
func TestWhatIsHandedInStays(t *testing.T) {
	d := &die{31}
	for _, s := range slices.Concat(handMade(), plainSamples(30001, 300)) {
		for k := range 4 {
			if k > 0 {
				s.x = d.mutated(s.x)
			}
			want, e := Infer(s.g, s.stage, s.x)
			g, x, a := sparedContext(s.g), spared(s.x), spared(want)
			keptG, keptX, keptA := openedContext(g), opened(x), opened(a)
			b, f := Infer(g, s.stage, x)
			if e != f || !term.Same(want, b) {
				t.Errorf("%s: %s, %v, not %s, %v", short(x), short(b), f, short(want), e)
			}
			checks(t, g, s.stage, x, a, e)
			isContext(t, g, api.OK)
			if !reflect.DeepEqual(openedContext(g), keptG) || !reflect.DeepEqual(opened(x), keptX) || !reflect.DeepEqual(opened(a), keptA) {
				t.Errorf("%s: changed", short(x))
			}
		}
	}
	infers(t, ctx{}, 1, api.Tm{Op: api.Zero, Kids: []api.Tm{}}, "10")
}

// lists gathers where the lists of a term stand; it tells whether one was met before.
func lists(x api.Tm, seen map[*api.Tm]bool) bool {
	twice := false
	if cap(x.Kids) > 0 {
		at := &x.Kids[:cap(x.Kids)][0]
		twice, seen[at] = seen[at], true
	}
	for _, kid := range x.Kids {
		if lists(kid, seen) {
			twice = true
		}
	}
	return twice
}

// P2: an answer is new, and no two of its lists are the same.
func TestAnswersAreNew(t *testing.T) {
	for _, s := range manySamples() {
		seen := map[*api.Tm]bool{}
		for _, x := range s.g {
			lists(x.T, seen)
		}
		lists(s.x, seen)
		a, e := Infer(s.g, s.stage, s.x)
		if e != api.OK || lists(a, seen) {
			t.Errorf("%s: %v, or shared", short(s.x), e)
		}
	}
	f := tFun(whole(), whole())
	g := ctx{}.with(0, f).with(1, lift(f))
	for _, x := range []api.Tm{oPair(v(1), v(1)), oLam(f, v(0)), oLet(v(1), oPair(v(0), v(0))), spl(v(0)), oIf(i(1), v(1), v(1)), oFix(f, v(0)), v(1)} {
		seen := map[*api.Tm]bool{}
		lists(x, seen)
		lists(f, seen)
		if a, e := Infer(g, 0, x); e != api.OK || lists(a, seen) {
			t.Errorf("%s: %v, or shared", short(x), e)
		}
	}
}

// P2, P3: nothing is kept, so the same calls answer the same, and others anew.
func TestNothingIsKept(t *testing.T) {
	g := room()
	x := lam(nat(), app(v(1), v(0)))
	for range 5 {
		a, _ := Infer(g, 1, x)
		if term.Text(a) != "(3 10 (5 v6 v0))" {
			t.Errorf("%s", short(a))
		}
		a.Kids[0] = whole()
		a.Kids[1].Kids[0].N = 99
		x.Kids[1].Kids[1] = v(8)
		infers(t, g, 1, x, "(3 10 (5 v6 v8))")
		x.Kids[1].Kids[1] = v(0)
		g[7].T.Kids[1].Kids[1] = num(1)
		infers(t, g, 1, x, "(3 10 (5 v6 (12 11)))")
		g[7].T.Kids[1].Kids[1] = v(0)
		g[0].T = u(0)
		refused(t, g, 1, app(v(0), v(7)), api.ErrType)
		g[0].T = nat()
		infers(t, g, 1, app(v(0), v(7)), "(5 v5 v7)")
		g[2].T.Kids[1] = nat()
		isContext(t, g, api.ErrShape)
		g[2].T.Kids[1] = u(0)
		isContext(t, g, api.OK)
	}
}

// P3: the same calls answer the same, side by side too.
func TestSideBySide(t *testing.T) {
	l := slices.Concat(handMade(), plainSamples(40001, 100))
	var group sync.WaitGroup
	for range 4 {
		group.Go(func() {
			for _, s := range l {
				a, e := Infer(s.g, s.stage, s.x)
				b, f := Infer(s.g, s.stage, s.x)
				if e != f || !reflect.DeepEqual(a, b) || Check(s.g, s.stage, s.x, a) != e || Context(s.g) != api.OK {
					t.Errorf("%s: %v, %v", short(s.x), e, f)
				}
			}
		})
	}
	group.Wait()
}
