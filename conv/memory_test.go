package conv

import (
	"math"
	"reflect"
	"slices"
	"testing"

	"thyrsus/api"
)

// ends checks that it ends in all orders, and that beside an error it is false.
func ends(t *testing.T, a, b api.Tm) {
	t.Helper()
	for _, x := range [][2]api.Tm{{a, b}, {b, a}, {a, a}, {b, b}} {
		if is, e := Equal(x[0], x[1]); e != api.OK && is {
			t.Errorf("%v, and true", e)
		}
	}
}

// any is a term that has hardly ever a type.
func (d *die) any(deep int) api.Tm {
	ops := []int{api.Var, api.Lam, api.App, api.App, api.Pair, api.Fst, api.Snd, api.Suc, api.Rec, api.Quo, api.Spl, api.Zero, 1 + d.of(30)}
	op := ops[d.of(len(ops))]
	if deep == 1 {
		op = []int{api.Var, api.Var, api.Zero}[d.of(3)]
	}
	x := of(op)
	if op == api.Var {
		x.N = d.of(4)
	}
	for range kidsByOp()[op] {
		x.Kids = append(x.Kids, d.any(deep-1))
	}
	return x
}

// wild is what may be no term at all.
func (d *die) wild(deep int) api.Tm {
	x := d.any(1)
	x.Op, x.N = d.of(34)-1, d.of(9)-2
	if d.of(3) == 0 {
		x.Op, x.N = api.Var, int(d.next())>>d.of(64)
	}
	if d.of(20) == 0 {
		x.Op = int(d.next()) >> d.of(64)
	}
	if deep > 1 {
		for range d.of(6) {
			x.Kids = append(x.Kids, d.wild(deep-1))
		}
	}
	return x
}

// P1: terms without a type, things that are no terms.
func TestAnythingEnds(t *testing.T) {
	d := &die{131}
	for range 5000 {
		ends(t, d.any(2+d.of(7)), d.any(2+d.of(7)))
		ends(t, d.wild(5), d.wild(5))
	}
	some := []int{0, 1, -1, 2, 3, 30, 31, 3000, 3001, 1 << 31, math.MinInt, math.MaxInt}
	for _, n := range some {
		for _, k := range some {
			ends(t, lam(v(k), app(v(n), v(k))), v(n))
			ends(t, app(lam(v(k), v(n)), v(k)), of(n, v(k)))
			ends(t, numbered(api.Rec, n, v(k), v(n), v(k), numbered(api.Suc, k, v(n))), numbered(n, k))
		}
	}
}

// P1: steps without end.
func TestEndless(t *testing.T) {
	self := fn(app(v(0), v(0)))
	more := fn(app(v(0), v(0), v(0)))
	grows := fn(of(api.Suc, app(v(0), v(0))))
	doubles := fn(two(app(v(0), v(0)), app(v(0), v(0))))
	below := fn(fn(app(v(1), v(1))))
	l := []api.Tm{app(self, self), app(more, more), app(grows, grows), app(doubles, doubles), app(below, below), quo(app(self, self))}
	for _, a := range l {
		for _, b := range l {
			if is, e := Equal(a, b); is || e != api.ErrFuel && e != api.ErrDeep {
				t.Errorf("%s, %s: %v, %v", short(a), short(b), is, e)
			}
		}
		ends(t, a, v(0))
	}
	equal(t, app(fn(num(2)), num(5)), num(2)) // P3: nothing is left of them
}

// endless is a node that holds itself, so many times.
func endless(op, times int) api.Tm {
	l := make([]api.Tm, times)
	for k := range l {
		l[k] = api.Tm{Op: op, Kids: l}
	}
	return l[0]
}

// P1: what is deeper than the stack of calls, endless, or too great to go through.
func TestGreatThingsEnd(t *testing.T) {
	shared, lams, apps := v(0), v(0), v(0)
	for range 60 {
		shared = app(shared, shared)
	}
	for range 1 << 18 {
		lams, apps = fn(lams), app(apps, v(0))
	}
	l := []api.Tm{shared, lams, apps, sucs(1<<18, v(0)), of(api.App, make([]api.Tm, 1<<18)...), of(api.Var, make([]api.Tm, 1<<18)...)}
	for op := range kidsByOp() {
		for times := 1; times < 5; times++ {
			l = append(l, endless(op, times))
		}
	}
	for k, x := range l {
		ends(t, x, l[(k+1)%len(l)])
		ends(t, app(fn(app(v(0), v(0))), x), quo(x))
		ends(t, fst(x), spl(x))
	}
}

// spared is a copy of a term, each list with spare room that is filled with marks.
func spared(x api.Tm) api.Tm {
	l := make([]api.Tm, 0, len(x.Kids)+3)
	for _, kid := range x.Kids {
		l = append(l, spared(kid))
	}
	all := l[:cap(l)]
	for k := len(l); k < cap(l); k++ {
		all[k] = v(77)
	}
	x.Kids = l
	return x
}

// opened is a copy of a term with the spare room of its lists as parts of them.
func opened(x api.Tm) api.Tm {
	x.Kids = slices.Clone(x.Kids[:cap(x.Kids)])
	for k := range x.Kids {
		x.Kids[k] = opened(x.Kids[k])
	}
	return x
}

// P2: what is handed in stays as it is, its spare room too; empty lists are the same as none.
func TestTermsStayAsTheyAre(t *testing.T) {
	for seed := range uint64(300) {
		l := slices.Concat(smallFamilies(seed+3001, 2, 2)...)
		for _, x := range l {
			for _, y := range l {
				want, _ := Equal(x, y)
				a, b := spared(x), spared(y)
				keptA, keptB := opened(a), opened(b)
				asks(t, a, b, want)
				if !reflect.DeepEqual(opened(a), keptA) || !reflect.DeepEqual(opened(b), keptB) {
					t.Errorf("%s, %s: changed", short(x), short(y))
				}
			}
		}
	}
}

// P2, P3: nothing is kept of what was handed in, so the same calls answer the same, and others anew.
func TestNothingIsKept(t *testing.T) {
	x, y := app(v(0), num(1), fn(app(v(2), v(0)))), app(v(0), num(1), v(1))
	for n := range 5 {
		asks(t, x, y, true)
		x.Kids[1].Kids[1].Kids[0].N = 7 + n
		asks(t, x, y, false)
		y.Kids[1].N = 6 + n
		asks(t, x, y, true)
	}
	asks(t, x, x, true)
}
