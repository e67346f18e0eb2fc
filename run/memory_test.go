package run

import (
	"math"
	"reflect"
	"slices"
	"sync"
	"testing"

	"thyrsus/api"
	"thyrsus/obj"
)

// ends checks that a run ends; that it tells a value only of code that has a type, and one of that type; and that nothing stands beside an error.
func ends(t *testing.T, x api.Tm, fuel int) {
	t.Helper()
	a, typed := obj.Infer(nil, x)
	switch y, n, e := Run(x, fuel); {
	case n < 0 || n > max(fuel, 0) || e != api.OK && !reflect.DeepEqual(y, api.Val{}):
		t.Errorf("%v, %d steps of %d, %v", y, n, fuel, e)
	case fuel < 0 || fuel > api.MaxFuel:
		if e != api.ErrArg || n != 0 {
			t.Errorf("fuel %d: %d, %v", fuel, n, e)
		}
	case typed != api.OK && (e != typed || n != 0):
		t.Errorf("%d, %v, not %v", n, e, typed)
	case typed == api.OK && (e != api.OK && e != api.ErrZero && e != api.ErrFuel || e == api.OK && !obj.Fits(y, a)):
		t.Errorf("%s: %v, %v", short(x), y, e)
	}
}

// any is a term that has hardly ever a type.
func (d *die) any(deep int) api.Tm {
	ops := []int{api.Var, api.TInt, api.TFun, api.OLam, api.OApp, api.OPair, api.OFst, api.OSnd, api.OLet, api.OFix, 1 + d.of(30)}
	op := ops[d.of(len(ops))]
	if deep == 1 {
		op = []int{api.Var, api.Var, api.Zero, api.TInt, api.OInt}[d.of(5)]
	}
	x := of(op)
	if op == api.Var {
		x.N = d.of(4)
	}
	for range kidsByOp()[op] {
		x.Kids = append(x.Kids, d.any(deep-1))
	}
	return x
}

// wild is what may be no term at all.
func (d *die) wild(deep int) api.Tm {
	x := of(d.of(34) - 1)
	x.N = d.of(9) - 2
	if d.of(3) == 0 {
		x.Op, x.N = api.Var, int(d.next())>>d.of(64)
	}
	if d.of(20) == 0 {
		x.Op = int(d.next()) >> d.of(64)
	}
	if deep > 1 {
		for range d.of(6) {
			x.Kids = append(x.Kids, d.wild(deep-1))
		}
	}
	return x
}

// P1: terms without a type, things that are no terms, fuel of all kinds.
func TestAnythingEnds(t *testing.T) {
	d := &die{131}
	fuels := []int{0, 1, 50, api.MaxFuel, -1, math.MinInt, math.MaxInt}
	for range 10000 {
		fuel := fuels[d.of(len(fuels))]
		ends(t, d.any(2+d.of(6)), fuel)
		ends(t, d.wild(5), fuel)
	}
	some := []int{0, 1, -1, 2, 3, 30, 31, 3000, 3001, 1 << 31, math.MinInt, math.MaxInt}
	for _, n := range some {
		for _, k := range some {
			for _, fuel := range fuels {
				ends(t, oApp(v(k), v(n)), fuel)
				ends(t, of(n, v(k)), fuel)
				ends(t, numbered(n, k), fuel)
				ends(t, numbered(api.OLam, n, whole(), of(k), numbered(api.OPrim, n)), fuel)
				ends(t, numbered(api.OPrim, n, i(k), i(1)), fuel)
				ends(t, oFix(whole(), plus(v(n), numbered(k, n))), fuel)
			}
			for kind := range 4 {
				Text(api.Val{Kind: kind, N: n, L: []api.Val{{Kind: k}, {Kind: n}}})
			}
		}
	}
}

// P1: code whose nodes are others, most of which has no type any more.
func TestMutated(t *testing.T) {
	d := &die{61}
	seen := map[api.Errno]int{}
	for seed := range uint64(4000) {
		x, ok := typed(seed + 50001)
		if !ok {
			continue
		}
		for range 5 {
			y := d.mutated(x)
			ends(t, y, 40)
			_, _, e := Run(y, 40)
			seen[e]++
		}
	}
	for _, e := range []api.Errno{api.OK, api.ErrZero, api.ErrFuel, api.ErrName, api.ErrShape, api.ErrType, api.ErrStage} {
		if seen[e] < 200 {
			t.Errorf("%v: only %d", e, seen[e])
		}
	}
}

// P1: each Op with any count of kids.
func TestWrongKids(t *testing.T) {
	for op := -1; op <= api.Spl+2; op++ {
		for inner := -1; inner <= api.Spl+2; inner++ {
			for n := range 6 {
				x := of(op)
				for k := range n {
					x.Kids = append(x.Kids, of(inner, x.Kids[:k]...))
				}
				ends(t, x, 20)
				ends(t, oPair(i(1), x), 20)
				ends(t, oLam(x, v(0)), 20)
				ends(t, oApp(id(), x), 20)
				ends(t, oIf(i(1), i(2), x), 20)
				ends(t, oFix(f(), x), 20)
			}
		}
	}
}

// holding is a node that holds itself, so many times.
func holding(op, times int) api.Tm {
	l := make([]api.Tm, times)
	for k := range l {
		l[k] = api.Tm{Op: op, Kids: l}
	}
	return l[0]
}

// greatThings are deeper than the stack of calls, endless, or too great to go through.
func greatThings() []api.Tm {
	shared, lams, pairs := v(0), whole(), i(0)
	for range 60 {
		shared = oApp(shared, shared)
	}
	for range 1 << 18 {
		lams, pairs = oLam(whole(), lams), oPair(pairs, i(0))
	}
	l := []api.Tm{shared, lams, pairs, of(api.OApp, make([]api.Tm, 1<<20)...), of(api.OPair, slices.Repeat([]api.Tm{i(1)}, 1<<20)...)}
	for op := range kidsByOp() {
		for times := 1; times < 5; times++ {
			l = append(l, holding(op, times))
		}
	}
	return l
}

// P1: great things by themselves, and where terms and types stand.
func TestGreatThingsEnd(t *testing.T) {
	for _, x := range greatThings() {
		for _, y := range []api.Tm{x, oPair(i(1), x), oLam(x, v(0)), oFix(x, v(0)), oIf(i(1), i(1), x), oLet(i(1), x), oApp(id(), x)} {
			for _, fuel := range []int{-1, 0, api.MaxFuel} {
				ends(t, y, fuel)
			}
		}
	}
	runs(t, i(1), "1", 0) // P3: nothing is left of them
}

// circle is a value that holds itself behind so many pairs, and so many more lead to it; to the left or to the right, as the bits say.
func circle(ahead, around int, bits uint) api.Val {
	all := make([]api.Val, 2*(ahead+around))
	at := func(k int) int {
		if k >= ahead+around {
			k = ahead
		}
		return 2*k + int(bits>>(k%16)&1)
	}
	for k := range all {
		all[k] = vInt(k)
	}
	for k := range ahead + around {
		next := at(k+1) / 2 * 2
		all[at(k)] = api.Val{Kind: api.VPair, L: all[next : next+2]}
	}
	return all[at(0)]
}

// P1: values without end have no text: what leads to them, and around in them, is short or long, to the left, to the right, or by turns.
func TestEndlessValues(t *testing.T) {
	for ahead := range 9 {
		for around := 1; around < 9; around++ {
			for bits := range uint(64) {
				says(t, circle(ahead, around, bits*0x41), "")
				says(t, vPair(vInt(1), vPair(circle(ahead, around, bits), vFun())), "")
			}
		}
	}
	for _, n := range []int{100, 1000, 100000} {
		for _, bits := range []uint{0, 0xffff, 0x5555, 0xcafe} {
			says(t, circle(n, 1, bits), "")
			says(t, circle(1, n, bits), "")
			says(t, circle(n, n/3, bits), "")
		}
	}
	for kind := -1; kind < 5; kind++ {
		for times := 1; times < 5; times++ {
			l := make([]api.Val, times)
			for k := range l {
				l[k] = api.Val{Kind: kind, L: l}
			}
			want := "fn"
			switch {
			case kind == api.VInt:
				want = "0"
			case kind == api.VPair && times == 2:
				want = ""
			}
			says(t, l[0], want)
			if want != "" {
				want = "(" + want + ", 1)"
			}
			says(t, vPair(l[0], vInt(1)), want)
		}
	}
}

// P1: a value whose text would be longer than anything is.
func TestTextsThatAreTooLong(t *testing.T) {
	x := vInt(1)
	for range 60 {
		x = vPair(x, x)
	}
	says(t, x, "")
	says(t, vPair(vInt(1), vInt(2)), "(1, 2)") // P3: nothing is left of it
}

// spared is a copy of a term, each list with spare room that is filled with marks.
func spared(x api.Tm) api.Tm {
	l := make([]api.Tm, 0, len(x.Kids)+3)
	for _, kid := range x.Kids {
		l = append(l, spared(kid))
	}
	all := l[:cap(l)]
	for k := len(l); k < cap(l); k++ {
		all[k] = v(77)
	}
	x.Kids = l
	return x
}

// opened is a copy of a term with the spare room of its lists as parts of them.
func opened(x api.Tm) api.Tm {
	x.Kids = slices.Clone(x.Kids[:cap(x.Kids)])
	for k := range x.Kids {
		x.Kids[k] = opened(x.Kids[k])
	}
	return x
}

// sparedValue and openedValue are the same of values.
func sparedValue(v api.Val) api.Val {
	l := make([]api.Val, 0, len(v.L)+3)
	for _, part := range v.L {
		l = append(l, sparedValue(part))
	}
	all := l[:cap(l)]
	for k := len(l); k < cap(l); k++ {
		all[k] = vInt(77)
	}
	v.L = l
	return v
}

func openedValue(v api.Val) api.Val {
	v.L = slices.Clone(v.L[:cap(v.L)])
	for k := range v.L {
		v.L[k] = openedValue(v.L[k])
	}
	return v
}

// P2: what is handed in stays as it is, its spare room too; empty lists are the same as none.
func TestWhatIsHandedInStays(t *testing.T) {
	d := &die{31}
	for seed := range uint64(1500) {
		x, ok := typed(seed + 40001)
		if !ok {
			continue
		}
		for k := range 3 {
			if k > 0 {
				x = d.mutated(x)
			}
			y := spared(x)
			kept := opened(y)
			want, steps, e := Run(x, 60)
			if got, n, g := Run(y, 60); g != e || n != steps || !reflect.DeepEqual(got, want) {
				t.Errorf("%s: %v, %d, %v, not %v, %d, %v", short(y), got, n, g, want, steps, e)
			}
			if !reflect.DeepEqual(opened(y), kept) {
				t.Errorf("%s: changed", short(y))
			}
		}
		v := sparedValue(d.anyValue(6))
		kept := openedValue(v)
		says(t, v, read(v))
		if !reflect.DeepEqual(openedValue(v), kept) {
			t.Errorf("%v: changed", v)
		}
	}
}

// lists gathers where the lists of a value stand; it tells whether one was met before.
func lists(v api.Val, seen map[*api.Val]bool) bool {
	twice := false
	if cap(v.L) > 0 {
		for k := range v.L[:cap(v.L)] {
			at := &v.L[:cap(v.L)][k]
			twice, seen[at] = twice || seen[at], true
		}
	}
	for _, part := range v.L {
		if lists(part, seen) {
			twice = true
		}
	}
	return twice
}

// P2: an answer is new, and no two of its lists are the same, where one value stands in many places.
func TestAnswersAreNew(t *testing.T) {
	seen := map[*api.Val]bool{}
	pair := oPair(i(1), i(2))
	twice := func(x api.Tm) api.Tm { return oLet(x, oPair(v(0), v(0))) }
	for _, x := range []api.Tm{pair, twice(pair), twice(twice(twice(pair))), oPair(pair, pair), oApp(oLam(p(), oPair(v(0), oPair(v(0), i(3)))), pair), oFst(twice(twice(pair))), oIf(i(1), twice(pair), twice(pair)), oFix(tPro(p(), p()), twice(pair))} {
		for range 3 {
			y, _, e := Run(x, 100)
			if e != api.OK || lists(y, seen) {
				t.Errorf("%s: %v, or shared", short(x), e)
			}
		}
	}
	for seed := range uint64(1500) {
		if x, ok := typed(seed + 60001); ok {
			if y, _, _ := Run(x, 100); lists(y, seen) {
				t.Errorf("%s: shared", short(x))
			}
		}
	}
}

// P2, P3: nothing is kept, so the same calls answer the same, and others anew.
func TestNothingIsKept(t *testing.T) {
	x := oLet(oPair(i(1), oLam(whole(), v(0))), oPair(v(0), oApp(oSnd(v(0)), i(5))))
	for range 5 {
		y, n, e := Run(x, 9)
		if Text(y) != "((1, fn), 5)" || n != 1 || e != api.OK {
			t.Fatalf("%s, %d, %v", Text(y), n, e)
		}
		y.L[0].L[0].N = 7
		y.L[1] = vFun()
		says(t, y, "((7, fn), fn)")
		runs(t, x, "((1, fn), 5)", 1)
		x.Kids[0].Kids[0].N = 4
		x.Kids[1].Kids[1].Kids[1].N = 6
		runs(t, x, "((4, fn), 6)", 1)
		x.Kids[0].Kids[0].N = 1
		x.Kids[1].Kids[1].Kids[1].N = 5
		fails(t, x, 0, api.ErrFuel, 0)
		fails(t, endless(whole()), 100, api.ErrFuel, 100)
		divides(t, after(3, zero(i(1))), 3)
	}
}

// P3: the same calls answer the same, side by side too.
func TestSideBySide(t *testing.T) {
	d := &die{41}
	var l []api.Tm
	for seed := range uint64(300) {
		if x, ok := typed(seed + 70001); ok {
			l = append(l, x, d.mutated(x))
		}
	}
	value := vPair(vInt(1), vPair(vFun(), vInt(3)))
	var group sync.WaitGroup
	for range 4 {
		group.Go(func() {
			for _, x := range l {
				y, n, e := Run(x, 200)
				z, m, g := Run(x, 200)
				if n != m || e != g || !reflect.DeepEqual(y, z) {
					t.Errorf("%s: %v, %d, %v, and %v, %d, %v", short(x), y, n, e, z, m, g)
				}
				says(t, value, "(1, (fn, 3))")
			}
			runs(t, oApp(fib(), i(9)), "34", 217)
		})
	}
	group.Wait()
}
