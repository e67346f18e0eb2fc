package obj

import (
	"math"
	"reflect"
	"slices"
	"sync"
	"testing"

	"thyrsus/api"
	"thyrsus/term"
)

// ends checks that each call ends, and that beside an error nothing is told.
func ends(t *testing.T, g []api.Tm, x api.Tm) {
	t.Helper()
	Type(x)
	Fits(vPair(vInt(1), vFun()), x)
	Fits(vFun(), x)
	switch a, e := Infer(g, x); {
	case e != api.OK && !empty(a):
		t.Errorf("%v, and something", e)
	case e == api.OK && !Type(a):
		t.Errorf("%s: no type", short(a))
	}
}

// any is a term that has hardly ever a type.
func (d *die) any(deep int) api.Tm {
	ops := []int{api.Var, api.TInt, api.TFun, api.OLam, api.OApp, api.OPair, api.OFst, api.OSnd, api.OLet, api.OFix, 1 + d.of(30)}
	op := ops[d.of(len(ops))]
	if deep == 1 {
		op = []int{api.Var, api.Var, api.Zero, api.TInt, api.OInt}[d.of(5)]
	}
	x := of(op)
	if op == api.Var {
		x.N = d.of(4)
	}
	for range kidsByOp()[op] {
		x.Kids = append(x.Kids, d.any(deep-1))
	}
	return x
}

// wild is what may be no term at all.
func (d *die) wild(deep int) api.Tm {
	x := of(d.of(34) - 1)
	x.N = d.of(9) - 2
	if d.of(3) == 0 {
		x.Op, x.N = api.Var, int(d.next())>>d.of(64)
	}
	if d.of(20) == 0 {
		x.Op = int(d.next()) >> d.of(64)
	}
	if deep > 1 {
		for range d.of(6) {
			x.Kids = append(x.Kids, d.wild(deep-1))
		}
	}
	return x
}

// P1: terms without a type, things that are no terms, among variables whose types are none.
func TestAnythingEnds(t *testing.T) {
	d := &die{131}
	for range 10000 {
		var g []api.Tm
		for range d.of(4) {
			g = append(g, d.wild(3))
		}
		g = append(g, d.any(3))
		ends(t, g, d.any(2+d.of(6)))
		ends(t, g, d.wild(5))
		for n := range g {
			ends(t, g, v(n))
			ends(t, g, oPair(v(n), v(0)))
			ends(t, g, oApp(v(n), oFst(v(0))))
			ends(t, g, oFix(f(), v(n+1)))
		}
	}
	some := []int{0, 1, -1, 2, 3, 30, 31, 3000, 3001, 1 << 31, math.MinInt, math.MaxInt}
	for _, n := range some {
		for _, k := range some {
			g := []api.Tm{numbered(n, k), of(k, v(n))}
			ends(t, g, oApp(v(k), v(n)))
			ends(t, g, of(n, v(k)))
			ends(t, g, numbered(n, k))
			ends(t, g, numbered(api.OLam, n, whole(), of(k), numbered(api.OPrim, n)))
			for kind := range 4 {
				Quote(api.Val{Kind: kind, N: n, L: []api.Val{{Kind: k}, {Kind: n}}})
				Fits(api.Val{Kind: kind, N: n, L: []api.Val{{Kind: k}, {Kind: n}}}, of(n, of(k), of(k)))
			}
		}
	}
}

// P1: each Op with any count of kids.
func TestWrongKids(t *testing.T) {
	for op := -1; op <= api.Spl+2; op++ {
		for inner := -1; inner <= api.Spl+2; inner++ {
			for n := range 6 {
				x := of(op)
				for k := range n {
					x.Kids = append(x.Kids, of(inner, x.Kids[:k]...))
				}
				g := []api.Tm{x, of(inner, x)}
				ends(t, g, x)
				ends(t, g, oPair(i(1), x))
				ends(t, g, oLam(x, v(0)))
				for k := range g {
					ends(t, g, oFst(v(k)))
					ends(t, g, oApp(v(k), v(0)))
				}
				Fits(vPair(vPair(vInt(1), vFun()), vInt(1)), x)
			}
		}
	}
}

// endless is a node that holds itself, so many times.
func endless(op, times int) api.Tm {
	l := make([]api.Tm, times)
	for k := range l {
		l[k] = api.Tm{Op: op, Kids: l}
	}
	return l[0]
}

// endlessValue is a value that holds itself, so many times.
func endlessValue(kind, times int) api.Val {
	l := make([]api.Val, times)
	for k := range l {
		l[k] = api.Val{Kind: kind, L: l}
	}
	return l[0]
}

// greatThings are deeper than the stack of calls, endless, or too great to go through.
func greatThings() []api.Tm {
	shared, types, lams, pairs := v(0), whole(), v(0), i(0)
	for range 60 {
		shared, types = oApp(shared, shared), tPro(types, types)
	}
	for range 1 << 18 {
		lams, pairs = oLam(whole(), lams), tPro(pairs, v(0))
	}
	l := []api.Tm{shared, types, lams, pairs, of(api.OApp, make([]api.Tm, 1<<20)...), of(api.TPro, slices.Repeat([]api.Tm{whole()}, 1<<20)...)}
	for op := range kidsByOp() {
		for times := 1; times < 5; times++ {
			l = append(l, endless(op, times))
		}
	}
	return l
}

// P1: great things as terms, as types that are written, as those of variables.
func TestGreatThingsEnd(t *testing.T) {
	for _, x := range greatThings() {
		ends(t, nil, x)
		ends(t, nil, oPair(i(1), x))
		ends(t, nil, oLam(x, v(0)))
		ends(t, nil, oFix(x, v(0)))
		g := []api.Tm{x, tPro(whole(), x), tFun(x, whole())}
		for n := range g {
			for _, y := range []api.Tm{v(n), oPair(v(n), v(n)), oFst(v(n)), oSnd(v(n)), oApp(v(n), v(n)), plus(v(n), v(n)), oIf(i(1), v(n), v(n)), oLet(v(n), v(0)), oLam(whole(), v(n+1)), oFix(f(), v(n+1))} {
				ends(t, g, y)
			}
		}
		infers(t, g, i(1), "15") // it is not asked for
		infers(t, g, oLet(oPair(i(1), i(2)), v(0)), "(17 15 15)")
	}
}

// P1: values without end against types of all kinds, and the other way.
func TestGreatValuesEnd(t *testing.T) {
	shared := vInt(1)
	for range 60 {
		shared = vPair(shared, shared)
	}
	deep := vInt(1)
	for range 1 << 20 {
		deep = vPair(deep, vInt(2))
	}
	l := []api.Val{shared, deep, {Kind: api.VPair, L: make([]api.Val, 1<<20)}, {Kind: api.VInt, L: make([]api.Val, 1<<20)}, {Kind: api.VFun, L: make([]api.Val, 1<<20)}}
	for kind := -1; kind < 5; kind++ {
		for times := 1; times < 4; times++ {
			l = append(l, endlessValue(kind, times))
		}
	}
	for _, v := range l {
		for _, w := range []api.Val{v, vPair(v, vInt(1)), vPair(vFun(), v), vPair(vInt(1), v)} {
			if x, ok := Quote(w); !ok && !empty(x) {
				t.Errorf("something is told")
			}
			for _, a := range []api.Tm{whole(), f(), p(), tys(2999), chain(120), tPro(whole(), tys(2997)), tPro(tys(2997), whole())} {
				holds(t, w, a, w.Kind == api.VInt && len(w.L) == 0 && a.Op == api.TInt)
			}
		}
		for _, a := range greatThings() {
			Fits(v, a)
			Fits(v, tPro(a, a))
			Fits(vPair(v, vPair(v, v)), tPro(tPro(a, a), a))
		}
	}
	infers(t, nil, i(1), "15") // P3: nothing is left of them
	quoted(t, vInt(1), "i1")
}

// spared is a copy of a term, each list with spare room that is filled with marks.
func spared(x api.Tm) api.Tm {
	x.Kids = sparedAll(x.Kids)
	return x
}

func sparedAll(kids []api.Tm) []api.Tm {
	l := make([]api.Tm, 0, len(kids)+3)
	for _, kid := range kids {
		l = append(l, spared(kid))
	}
	all := l[:cap(l)]
	for k := len(l); k < cap(l); k++ {
		all[k] = v(77)
	}
	return l
}

// opened is a copy of a term with the spare room of its lists as parts of them.
func opened(x api.Tm) api.Tm {
	x.Kids = openedAll(x.Kids)
	return x
}

func openedAll(kids []api.Tm) []api.Tm {
	l := slices.Clone(kids[:cap(kids)])
	for k := range l {
		l[k] = opened(l[k])
	}
	return l
}

// sparedValue and openedValue are the same of values.
func sparedValue(v api.Val) api.Val {
	l := make([]api.Val, 0, len(v.L)+3)
	for _, part := range v.L {
		l = append(l, sparedValue(part))
	}
	all := l[:cap(l)]
	for k := len(l); k < cap(l); k++ {
		all[k] = vInt(77)
	}
	v.L = l
	return v
}

func openedValue(v api.Val) api.Val {
	v.L = slices.Clone(v.L[:cap(v.L)])
	for k := range v.L {
		v.L[k] = openedValue(v.L[k])
	}
	return v
}

// P2: what is handed in stays as it is, its spare room too; empty lists are the same as none.
func TestWhatIsHandedInStays(t *testing.T) {
	d := &die{31}
	for seed := range uint64(1500) {
		g, x, a, ok := typed(seed + 40001)
		if !ok {
			continue
		}
		for k := range 3 {
			if k > 0 {
				x = d.mutated(x)
			}
			want, e := Infer(g, x)
			h, y := sparedAll(g), spared(x)
			gKept, xKept := openedAll(h), opened(y)
			if got, f := Infer(h, y); f != e || !reflect.DeepEqual(got, want) {
				t.Errorf("%s: %s, %v, not %s, %v", short(y), short(got), f, short(want), e)
			}
			if !reflect.DeepEqual(openedAll(h), gKept) || !reflect.DeepEqual(opened(y), xKept) {
				t.Errorf("%s: changed", short(y))
			}
		}
		isSpared(t, d.ofType(a), a)
	}
}

// isSpared checks the calls that take values.
func isSpared(t *testing.T, v api.Val, a api.Tm) {
	t.Helper()
	w, b := sparedValue(v), spared(a)
	vKept, aKept := openedValue(w), opened(b)
	holds(t, w, b, true)
	isA(t, b, true)
	x, ok := Quote(v)
	if y, is := Quote(w); is != ok || !reflect.DeepEqual(x, y) {
		t.Errorf("%v: %s, %v, not %s, %v", v, short(y), is, short(x), ok)
	}
	if !reflect.DeepEqual(openedValue(w), vKept) || !reflect.DeepEqual(opened(b), aKept) {
		t.Errorf("%v: changed", v)
	}
}

// lists gathers where the lists of a term stand; it tells whether one was met before.
func lists(x api.Tm, seen map[*api.Tm]bool) bool {
	twice := false
	if cap(x.Kids) > 0 {
		at := &x.Kids[:cap(x.Kids)][0]
		twice, seen[at] = seen[at], true
	}
	for _, kid := range x.Kids {
		if lists(kid, seen) {
			twice = true
		}
	}
	return twice
}

// P2: an answer is new, and no two of its lists are the same, where one type is told in many places.
func TestAnswersAreNew(t *testing.T) {
	isNew := func(g []api.Tm, x api.Tm) {
		t.Helper()
		seen := map[*api.Tm]bool{}
		lists(of(0, g...), seen)
		lists(x, seen)
		for range 2 {
			if a, e := Infer(g, x); e != api.OK || lists(a, seen) {
				t.Errorf("%s: %v, or shared", short(x), e)
			}
		}
	}
	g := []api.Tm{tPro(f(), f()), tFun(p(), f()), f()}
	for _, x := range []api.Tm{v(0), v(1), v(2), oPair(v(0), v(0)), oFst(v(2)), oSnd(v(2)), oApp(v(1), oPair(i(1), i(2))), oLam(f(), v(0)), oLam(p(), oLam(p(), oPair(v(0), v(0)))), oLet(v(2), oPair(v(0), v(0))), oFix(f(), v(0)), oIf(i(1), v(0), v(0)), doubled(9, v(0))} {
		isNew(g, x)
	}
	for seed := range uint64(1500) {
		if g, x, _, ok := typed(seed + 50001); ok {
			isNew(g, x)
		}
	}
	shared := vPair(vInt(1), vInt(2))
	shared = vPair(shared, shared)
	seen := map[*api.Tm]bool{}
	for range 3 {
		if x, ok := Quote(vPair(shared, shared)); !ok || lists(x, seen) {
			t.Errorf("%v, or shared", ok)
		}
	}
}

// P2, P3: nothing is kept, so the same calls answer the same, and others anew.
func TestNothingIsKept(t *testing.T) {
	g := []api.Tm{f(), whole()}
	x := oLam(f(), oPair(v(0), oApp(v(2), v(1))))
	pair := vPair(vInt(1), vInt(2))
	for range 5 {
		a, _ := Infer(g, x)
		if term.Text(a) != "(16 (16 15 15) (17 (16 15 15) 15))" {
			t.Fatalf("%s", short(a))
		}
		a.Kids[0].Kids[0] = nat()
		a.Kids[1].Kids[0].Kids[1].Op = api.Ty
		a.Kids[1].Kids[1] = v(3)
		infers(t, g, x, "(16 (16 15 15) (17 (16 15 15) 15))")
		g[0].Kids[1] = p()
		infers(t, g, x, "(16 (16 15 15) (17 (16 15 15) (17 15 15)))")
		g[0].Kids[1] = whole()
		x.Kids[0].Kids[0] = nat()
		refused(t, g, x, api.ErrStage)
		x.Kids[0].Kids[0] = whole()
		y, _ := Quote(pair)
		y.Kids[0].N = 9
		pair.L[1] = vInt(3)
		quoted(t, pair, "(22 i1 i3)")
		holds(t, pair, p(), true)
		pair.L[1] = vFun()
		quoted(t, pair, "")
		holds(t, pair, p(), false)
		holds(t, pair, tPro(whole(), f()), true)
		pair.L[1] = vInt(2)
	}
}

// P3: the same calls answer the same, side by side too.
func TestSideBySide(t *testing.T) {
	d := &die{41}
	g := several()
	var l []api.Tm
	for seed := range uint64(400) {
		if _, x, _, ok := typed(seed + 60001); ok {
			l = append(l, x, d.mutated(x))
		}
	}
	vals := []api.Val{vPair(vInt(1), vFun()), vPair(vInt(1), vPair(vInt(2), vInt(3)))}
	var group sync.WaitGroup
	for range 4 {
		group.Go(func() {
			for _, x := range l {
				a, e := Infer(g, x)
				b, f := Infer(g, x)
				if e != f || !reflect.DeepEqual(a, b) || Type(a) != (e == api.OK) {
					t.Errorf("%s: %v, %v", short(x), e, f)
				}
				quoted(t, vals[0], "")
				quoted(t, vals[1], "(22 i1 (22 i2 i3))")
				holds(t, vals[0], tPro(whole(), g[2]), true)
			}
		})
	}
	group.Wait()
}
