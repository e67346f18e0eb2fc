package term

import (
	"math"
	"reflect"
	"slices"
	"testing"
	"unsafe"

	"thyrsus/api"
)

// callAll calls each face.
func callAll(x, y api.Tm, n, k int) {
	Check(x)
	Binders(n, k)
	Size(x)
	Free(x, n)
	Below(x, n)
	Shift(x, n, k)
	Subst(x, n, y)
	Same(x, y)
	Text(x)
}

// wild is what may be no term at all.
func (d *die) wild(deep int) api.Tm {
	x := api.Tm{Op: d.of(34) - 1, N: d.of(9) - 2}
	if d.of(3) == 0 {
		x.Op, x.N = api.Var, int(d.next())>>d.of(64)
	}
	if d.of(20) == 0 {
		x.Op = int(d.next()) >> d.of(64)
	}
	if deep > 1 {
		for range d.of(6) {
			x.Kids = append(x.Kids, d.wild(deep-1))
		}
	}
	return x
}

// P1: whatever nodes, whatever numbers.
func TestAnythingEnds(t *testing.T) {
	d := &die{67}
	some := []int{0, 1, -1, 2, 3, 30, 31, 2999, 3000, 3001, 1 << 31, -1 << 31, math.MinInt, math.MinInt + 1, math.MaxInt, math.MaxInt - 1}
	for range 3000 {
		callAll(d.wild(5), d.wild(4), some[d.of(len(some))], some[d.of(len(some))])
	}
	for _, n := range some {
		for _, k := range some {
			callAll(v(n), v(k), n, k)
			callAll(of(api.Lam, v(k), v(n)), v(k), n, k)
			callAll(of(n, v(k)), of(k), n, k)
		}
	}
}

// endless is a term that holds itself, so many times.
func endless(times int) api.Tm {
	l := make([]api.Tm, times)
	for i := range l {
		l[i] = api.Tm{Op: api.App, Kids: l}
	}
	return l[0]
}

// shared is a term that has each part twice, so that it has 2^n nodes and more.
func shared(n int) api.Tm {
	x := v(0)
	for range n {
		x = of(api.App, x, x)
	}
	return x
}

// P1: what is deeper than the stack of calls, endless, or too great to go through.
func TestGreatThingsEnd(t *testing.T) {
	wide := of(api.App, make([]api.Tm, 1<<20)...)
	for i, x := range []api.Tm{sucs(1<<21, v(0)), endless(1), endless(4), shared(60), of(api.App, v(0), endless(2)), wide} {
		if Check(x) == api.OK {
			t.Errorf("%d: allowed", i)
		}
		callAll(x, x, 0, 0)
		callAll(v(0), x, 0, 0)
		callAll(x, v(0), 0, 0)
	}
	callAll(shared(20), shared(20), 0, 0) // each by itself could be gone through
}

// P403: what comes of terms is taken, though Check refuses it.
func TestMoreThanTerms(t *testing.T) {
	far := Shift(Shift(v(3000), 3000, 3000), 3000, 3000)
	written(t, far, "v9000")
	written(t, Subst(far, 9000, v(1)), "v1")
	if !Free(far, 9000) || Below(far, 9000) || !Below(far, 9001) || Size(far) != 1 || !Same(far, v(9000)) {
		t.Error("far")
	}
	deep := sucs(119, v(0))
	for range 9 {
		deep = Subst(deep, 0, sucs(119, v(0)))
	}
	if Check(deep) != api.ErrDeep || !Same(deep, sucs(1190, v(0))) || Size(deep) != 1191 || !Free(deep, 0) {
		t.Error("deep")
	}
	chain := sucs(1<<16, v(5))
	if Size(chain) != 1<<16+1 || !Same(Shift(chain, 2, 5), sucs(1<<16, v(7))) || !Same(Subst(chain, 4, v(0)), sucs(1<<16, v(4))) {
		t.Error("chain")
	}
}

// P9: numbers out of bounds are refused, not taken for others.
func TestShiftRefuses(t *testing.T) {
	for _, n := range []int{-1, 3001, math.MinInt, math.MaxInt} {
		for _, x := range []api.Tm{Shift(v(1), n, 0), Shift(v(1), 0, n), Shift(v(1), n, n)} {
			if !reflect.DeepEqual(x, api.Tm{}) {
				t.Errorf("%d: %v", n, x)
			}
		}
	}
	for _, n := range []int{-1, math.MinInt} {
		if x := Subst(v(1), n, v(0)); !reflect.DeepEqual(x, api.Tm{}) {
			t.Errorf("%d: %v", n, x)
		}
	}
}

// spared is a copy of a term, each list with spare room that is filled with marks.
func spared(x api.Tm) api.Tm {
	l := make([]api.Tm, 0, len(x.Kids)+3)
	for _, kid := range x.Kids {
		l = append(l, spared(kid))
	}
	whole := l[:cap(l)]
	for i := len(l); i < cap(l); i++ {
		whole[i] = v(77)
	}
	x.Kids = l
	return x
}

// opened is a copy of a term with the spare room of its lists as parts of them.
func opened(x api.Tm) api.Tm {
	x.Kids = slices.Clone(x.Kids[:cap(x.Kids)])
	for i := range x.Kids {
		x.Kids[i] = opened(x.Kids[i])
	}
	return x
}

// P2: terms that are handed in stay as they are, their spare room too.
func TestTermsStayAsTheyAre(t *testing.T) {
	us := terms(t, 71, 300, 3)
	for i, x := range terms(t, 73, 300, 4) {
		x, u := spared(x), spared(us[i])
		wantX, wantU := opened(x), opened(u)
		for n := range 6 {
			callAll(x, u, n, n)
		}
		if !reflect.DeepEqual(opened(x), wantX) || !reflect.DeepEqual(opened(u), wantU) {
			t.Errorf("%s, %s: changed", Text(x), Text(u))
		}
	}
}

// rooms adds each list of a term, its spare room too, by where it begins and ends.
func rooms(x api.Tm, out [][2]uintptr) [][2]uintptr {
	if cap(x.Kids) > 0 {
		from := uintptr(unsafe.Pointer(unsafe.SliceData(x.Kids)))
		out = append(out, [2]uintptr{from, from + uintptr(cap(x.Kids))*unsafe.Sizeof(api.Tm{})})
	}
	for _, kid := range x.Kids {
		out = rooms(kid, out)
	}
	return out
}

// apart checks that no two lists of these share memory.
func apart(t *testing.T, l ...api.Tm) {
	t.Helper()
	var all [][2]uintptr
	for _, x := range l {
		all = rooms(x, all)
	}
	slices.SortFunc(all, func(a, b [2]uintptr) int {
		if a[0] < b[0] {
			return -1
		}
		return 1
	})
	for i := 1; i < len(all); i++ {
		if all[i][0] < all[i-1][1] {
			t.Errorf("%s: two lists share memory", Text(l[len(l)-1]))
			return
		}
	}
}

// P2: answers are new memory, also where nothing changes, and where one thing is put in many places.
func TestAnswersAreNewMemory(t *testing.T) {
	us := terms(t, 79, 500, 3)
	for i, x := range terms(t, 83, 500, 4) {
		u := us[i]
		for n := range 4 {
			apart(t, x, Shift(x, 0, n), Shift(x, 0, 3000), Shift(x, n, 0))
			apart(t, x, u, Subst(x, n, u), Subst(x, 3000, u))
		}
	}
	u := of(api.Suc, of(api.Suc, v(0)))
	apart(t, u, Subst(of(api.Pair, v(0), v(0), v(0)), 0, u))
	apart(t, u, Subst(v(0), 0, u))
	twice := of(api.App, u, u)
	apart(t, u, Shift(twice, 1, 0), Subst(twice, 5, u))
}

// P2, P3: an answer does not hang on what is done to what was handed in, nor to another answer.
func TestAnswersStay(t *testing.T) {
	x, u := of(api.App, v(0), of(api.Lam, v(1), v(1))), of(api.Suc, v(2))
	one, two := Subst(x, 0, u), Subst(x, 0, u)
	moved := Shift(x, 1, 0)
	x.Kids[1].Kids[1], x.Kids[0], u.Kids[0] = v(50), v(51), v(52)
	one.Kids[0].Kids[0], one.Kids[1] = v(53), v(54)
	written(t, two, "(5 (12 v2) (4 v0 (12 v3)))")
	written(t, moved, "(5 v1 (4 v2 v2))")
}

// P2: no list (nil) and an empty one are the same.
func TestEmptyLists(t *testing.T) {
	for _, x := range terms(t, 89, 300, 4) {
		y := copied(x)
		if Check(y) != api.OK || Size(y) != Size(x) || Text(y) != Text(x) || !Same(x, y) ||
			!Same(Shift(x, 1, 1), Shift(y, 1, 1)) || !Same(Subst(x, 1, x), Subst(y, 1, y)) {
			t.Errorf("%s", Text(x))
		}
	}
}
