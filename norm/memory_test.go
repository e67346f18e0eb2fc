package norm

import (
	"math"
	"reflect"
	"slices"
	"testing"
	"unsafe"

	"thyrsus/api"
	"thyrsus/term"
)

// callBoth calls each face, and checks that beside an error nothing is told.
func callBoth(t *testing.T, x api.Tm) {
	t.Helper()
	got, e := Normal(x)
	if e != api.OK && !reflect.DeepEqual(got, api.Tm{}) {
		t.Errorf("%v: %s beside it", e, short(got))
	}
	Eta(x)
	Eta(got)
}

// any is a term that has hardly ever a type.
func (d *die) any(deep int) api.Tm {
	ops := []int{api.Var, api.Lam, api.App, api.App, api.Pair, api.Fst, api.Snd, api.Suc, api.Rec, api.Quo, api.Spl, api.Zero, 1 + d.of(30)}
	op := ops[d.of(len(ops))]
	if deep == 1 {
		op = []int{api.Var, api.Var, api.Zero}[d.of(3)]
	}
	x := of(op)
	if op == api.Var {
		x.N = d.of(4)
	}
	for range kidsByOp()[op] {
		x.Kids = append(x.Kids, d.any(deep-1))
	}
	return x
}

// wild is what may be no term at all.
func (d *die) wild(deep int) api.Tm {
	x := d.any(1)
	x.Op, x.N = d.of(34)-1, d.of(9)-2
	if d.of(3) == 0 {
		x.Op, x.N = api.Var, int(d.next())>>d.of(64)
	}
	if d.of(20) == 0 {
		x.Op = int(d.next()) >> d.of(64)
	}
	if deep > 1 {
		for range d.of(6) {
			x.Kids = append(x.Kids, d.wild(deep-1))
		}
	}
	return x
}

// P1: terms without a type, things that are no terms.
func TestAnythingEnds(t *testing.T) {
	d := &die{131}
	for range 20000 {
		callBoth(t, d.any(2+d.of(8)))
		callBoth(t, d.wild(5))
	}
	some := []int{0, 1, -1, 2, 3, 30, 31, 3000, 3001, 1 << 31, math.MinInt, math.MaxInt}
	for _, n := range some {
		for _, k := range some {
			callBoth(t, lam(v(k), app(v(n), v(k))))
			callBoth(t, app(lam(v(k), v(n)), v(k)))
			callBoth(t, of(n, v(k)))
			callBoth(t, numbered(api.Rec, n, v(k), v(n), v(k), numbered(api.Suc, k, v(n))))
		}
	}
}

// P1: each rule's two nodes, with any other count of kids.
func TestWrongKids(t *testing.T) {
	leaves := func(n int) []api.Tm {
		var l []api.Tm
		for range n {
			l = append(l, zero())
		}
		return l
	}
	for _, outer := range []int{api.App, api.Fst, api.Snd, api.Rec, api.Spl, api.Quo, api.Lam, api.Pair} {
		for _, inner := range []int{api.Lam, api.Pair, api.Zero, api.Suc, api.Quo, api.Spl, api.App, api.Fst, api.Snd, api.Var} {
			for n := range 6 {
				for k := range 6 {
					x := of(outer, leaves(n)...)
					for j := range n {
						x.Kids[j] = of(inner, leaves(k)...)
					}
					callBoth(t, x)
				}
			}
		}
	}
}

// P1: steps without end; nothing of them is promised but that they end.
func TestEndless(t *testing.T) {
	self := lam(nat(), app(v(0), v(0)))
	more := lam(nat(), app(v(0), v(0), v(0)))
	grows := lam(nat(), of(api.Suc, app(v(0), v(0))))
	wide := lam(nat(), two(app(v(0), v(0)), app(v(0), v(0))))
	below := lam(nat(), lam(nat(), app(v(1), v(1))))
	fix := lam(nat(), app(lam(nat(), app(v(1), app(v(0), v(0)))), lam(nat(), app(v(1), app(v(0), v(0))))))
	for _, x := range []api.Tm{
		app(self, self), app(more, more), app(grows, grows), app(wide, wide), app(below, below),
		app(fix, lam(nat(), v(0))), app(fix, lam(nat(), of(api.Suc, v(0)))), app(fix, v(3)),
		app(fix, lam(nat(), rec(nat(), zero(), v(0), v(0)))), app(self, more), fst(app(self, self)),
		rec(nat(), zero(), v(0), app(fix, lam(nat(), of(api.Suc, v(0))))), quo(app(self, self)), spl(app(fix, lam(nat(), quo(spl(v(0)))))),
	} {
		callBoth(t, x)
		callBoth(t, lam(nat(), x))
		callBoth(t, two(x, x))
	}
	becomes(t, app(lam(nat(), num(2)), num(5)), num(2)) // P3: nothing is left of them
}

// endless is a node that holds itself, so many times.
func endless(op, times int) api.Tm {
	l := make([]api.Tm, times)
	for k := range l {
		l[k] = api.Tm{Op: op, Kids: l}
	}
	return l[0]
}

// P1: what is deeper than the stack of calls, endless, or too great to go through.
func TestGreatThingsEnd(t *testing.T) {
	shared := v(0)
	for range 60 {
		shared = app(shared, shared)
	}
	lams, apps := v(0), v(0)
	for range 1 << 20 {
		lams, apps = lam(nat(), lams), app(apps, v(0))
	}
	l := []api.Tm{shared, lams, apps, sucs(1<<20, v(0)), of(api.App, make([]api.Tm, 1<<20)...), of(api.Var, make([]api.Tm, 1<<20)...)}
	for op := range kidsByOp() {
		for times := 1; times < 5; times++ {
			l = append(l, endless(op, times))
		}
	}
	for _, x := range l {
		callBoth(t, x)
		callBoth(t, app(lam(nat(), app(v(0), v(0))), x))
		callBoth(t, rec(nat(), x, x, x))
		callBoth(t, fst(x))
		callBoth(t, quo(x))
		callBoth(t, spl(x))
	}
}

// P501: what Subst makes of two terms may be no term; it has its normal form all the same.
func TestMoreThanTerms(t *testing.T) {
	x := of(api.Snd, pairOf(of(api.Sig, lifted(), nat()), quo(plus(spl(v(0)), spl(v(0)))), num(3)))
	big := term.Subst(x, 0, quo(sized(2999)))
	if term.Check(big) != api.ErrDeep {
		t.Fatal("a term")
	}
	becomes(t, big, num(3))
	becomes(t, app(lam(nat(), v(0)), v(6000)), v(6000))
}

// spared is a copy of a term, each list with spare room that is filled with marks.
func spared(x api.Tm) api.Tm {
	l := make([]api.Tm, 0, len(x.Kids)+3)
	for _, kid := range x.Kids {
		l = append(l, spared(kid))
	}
	whole := l[:cap(l)]
	for k := len(l); k < cap(l); k++ {
		whole[k] = v(77)
	}
	x.Kids = l
	return x
}

// opened is a copy of a term with the spare room of its lists as parts of them.
func opened(x api.Tm) api.Tm {
	x.Kids = slices.Clone(x.Kids[:cap(x.Kids)])
	for k := range x.Kids {
		x.Kids[k] = opened(x.Kids[k])
	}
	return x
}

// P2: what is handed in stays as it is, its spare room too.
func TestTermsStayAsTheyAre(t *testing.T) {
	for _, x := range typedTerms(t, 137, 300) {
		for _, x := range []api.Tm{spared(x), spared(fn(app(term.Shift(x, 1, 0), v(0)))), spared(two(fst(x), snd(x)))} {
			want := opened(x)
			callBoth(t, x)
			if !reflect.DeepEqual(opened(x), want) {
				t.Errorf("%s: changed", short(x))
			}
		}
	}
}

// rooms adds each list of a term, its spare room too, by where it begins and ends.
func rooms(x api.Tm, out [][2]uintptr) [][2]uintptr {
	if cap(x.Kids) > 0 {
		from := uintptr(unsafe.Pointer(unsafe.SliceData(x.Kids)))
		out = append(out, [2]uintptr{from, from + uintptr(cap(x.Kids))*unsafe.Sizeof(api.Tm{})})
	}
	for _, kid := range x.Kids {
		out = rooms(kid, out)
	}
	return out
}

// apart checks that no two lists of these share memory.
func apart(t *testing.T, l ...api.Tm) {
	t.Helper()
	var all [][2]uintptr
	for _, x := range l {
		all = rooms(x, all)
	}
	slices.SortFunc(all, func(a, b [2]uintptr) int {
		if a[0] < b[0] {
			return -1
		}
		return 1
	})
	for k := 1; k < len(all); k++ {
		if all[k][0] < all[k-1][1] {
			t.Errorf("%s: two lists share memory", short(l[len(l)-1]))
			return
		}
	}
}

// P2: answers are new memory, where nothing changes, and where one thing is put in many places.
func TestAnswersAreNewMemory(t *testing.T) {
	for _, x := range typedTerms(t, 139, 500) {
		x = copied(x) // no list stands in it twice
		a, _ := Normal(x)
		b, _ := Normal(x)
		same, _ := Normal(a)
		apart(t, x, a, b, same, Eta(a), Eta(a), Eta(Eta(a)))
	}
	p := app(v(0), num(2))
	x := two(fst(p), snd(p)) // p's lists stand in it twice
	apart(t, p, Eta(x))
	apart(t, p, Eta(app(v(0), x, x)))
	apart(t, p, Eta(fn(app(p, v(0)))), Eta(fn(app(v(1), v(0)))))
	many, _ := Normal(app(lam(nat(), app(v(1), v(0), v(0), v(0), lam(nat(), v(1)))), num(5)))
	apart(t, many)
	again, _ := Normal(rec(nat(), p, app(v(3), v(0), v(0)), num(4)))
	apart(t, p, again)
	becomes(t, app(v(0), p, p), app(v(0), p, p))
	same, _ := Normal(app(v(0), num(3), p))
	apart(t, p, same)
}

// P2, P3: an answer does not hang on what is done to what was handed in, nor to another answer.
func TestAnswersStay(t *testing.T) {
	x := app(v(0), app(lam(nat(), app(v(2), v(0))), num(1)), lam(nat(), app(v(1), v(0))))
	one, _ := Normal(x)
	two, _ := Normal(x)
	small, other := Eta(one), Eta(one)
	x.Kids[0].Kids[1].Kids[0].Kids[1] = v(50)
	x.Kids[1] = v(51)
	one.Kids[0].Kids[1], one.Kids[1].Kids[1].Kids[0] = v(52), v(53)
	other.Kids[0].Kids[1].Kids[0] = v(54)
	if got := term.Text(two); got != "(5 (5 v0 (5 v1 (12 11))) (4 10 (5 v1 v0)))" {
		t.Error(got)
	}
	if got := term.Text(small); got != "(5 (5 v0 (5 v1 (12 11))) v0)" {
		t.Error(got)
	}
}

// copied is a copy of x, no list (nil) being an empty one there.
func copied(x api.Tm) api.Tm {
	out := api.Tm{Op: x.Op, N: x.N, Kids: []api.Tm{}}
	for _, kid := range x.Kids {
		out.Kids = append(out.Kids, copied(kid))
	}
	return out
}

// P2: no list (nil) and an empty one are the same.
func TestEmptyLists(t *testing.T) {
	for _, x := range typedTerms(t, 149, 500) {
		a, e := Normal(x)
		b, f := Normal(copied(x))
		if e != f || !term.Same(a, b) || !term.Same(Eta(a), Eta(copied(a))) {
			t.Errorf("%s", short(x))
		}
	}
}
