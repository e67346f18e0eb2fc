package conv

import (
	"slices"
	"testing"

	"thyrsus/api"
	"thyrsus/norm"
	"thyrsus/term"
)

// called is a function's body, or what it does with the nearest variable.
func called(f api.Tm) api.Tm {
	if f.Op == api.Lam {
		return f.Kids[1]
	}
	return app(term.Shift(f, 1, 0), v(0))
}

// part is one of a pair's two.
func part(p api.Tm, which int) api.Tm {
	if p.Op == api.Pair {
		return p.Kids[which]
	}
	return of([]int{api.Fst, api.Snd}[which-1], p)
}

// alike tells the same of two normal forms of one type by the other way of eta:
// nothing is taken away, functions are called and pairs are taken apart.
func alike(a, b api.Tm) bool {
	switch {
	case a.Op == api.Lam || b.Op == api.Lam:
		return alike(called(a), called(b))
	case a.Op == api.Pair || b.Op == api.Pair:
		return alike(part(a, 1), part(b, 1)) && alike(part(a, 2), part(b, 2))
	case a.Op != b.Op || a.N != b.N || len(a.Kids) != len(b.Kids):
		return false
	}
	for k := range a.Kids {
		if !alike(a.Kids[k], b.Kids[k]) {
			return false
		}
	}
	return true
}

// small tells whether a term may be asked of without waiting for it.
func small(x api.Tm) bool {
	n, e := norm.Normal(x)
	return e == api.OK && term.Check(x) == api.OK && term.Size(x) < 1000 && term.Size(n) < 200
}

// smallFamilies are those of families that are small.
func smallFamilies(seed uint64, rows, each int) [][]api.Tm {
	l := families(seed, rows, each)
	for k := range l {
		l[k] = slices.DeleteFunc(l[k], func(x api.Tm) bool { return !small(x) })
	}
	return l
}

// P601: many terms of one type, each two of them, against the other way.
func TestAgainstTheOtherWay(t *testing.T) {
	unequal, byEta := 0, 0
	for seed := range uint64(300) {
		l := slices.Concat(smallFamilies(seed+1, 6, 2)...)
		for _, a := range l {
			for _, b := range l {
				x, _ := norm.Normal(a)
				y, _ := norm.Normal(b)
				want := alike(x, y)
				if is, e := Equal(a, b); e != api.OK || is != want {
					t.Errorf("%s, %s: %v, %v", short(a), short(b), is, e)
				}
				if !want {
					unequal++
				} else if !term.Same(x, y) {
					byEta++
				}
			}
		}
	}
	if unequal < 1000 || byEta < 200 {
		t.Errorf("only %d, %d", unequal, byEta)
	}
}

// P602: a term and itself, both orders, and three of which two and two are equal.
func TestEquality(t *testing.T) {
	seen := 0
	for seed := range uint64(80) {
		l := slices.Concat(smallFamilies(seed+501, 3, 3)...)
		for _, a := range l {
			asks(t, a, a, true)
			for _, b := range l {
				ab, _ := Equal(a, b)
				asks(t, b, a, ab)
				if !ab {
					continue
				}
				for _, c := range l {
					bc, _ := Equal(b, c)
					asks(t, a, c, bc)
					seen++
				}
			}
		}
	}
	if seen < 2000 {
		t.Errorf("only %d", seen)
	}
}

// P602: what is made of equal parts: terms some of whose parts are others that are equal to them.
func TestEqualParts(t *testing.T) {
	seen := 0
	for seed := range uint64(2000) {
		for _, row := range smallFamilies(seed+1001, 1, 3) {
			for k := 1; k < len(row); k++ {
				asks(t, row[0], row[k], true)
				if !term.Same(row[0], row[k]) {
					seen++
				}
			}
		}
	}
	if seen < 2000 {
		t.Errorf("only %d", seen)
	}
}

// P602: one node of equal parts, of each Op, whose steps they may lay bare.
func TestNodesOfEqualParts(t *testing.T) {
	fun, pairs := pi(nat(), nat()), sig(nat(), nat())
	parts := [][2]api.Tm{
		{v(3), wide(v(3))}, {v(3), whole(v(3))}, {fn(of(api.Suc, v(0))), wide(fn(add(v(0), num(1))))},
		{two(num(1), v(2)), whole(two(num(1), v(2)))}, {v(3), quo(spl(v(3)))}, {quo(i(4)), quo(spl(quo(i(4))))},
		{num(3), add(num(1), num(2))}, {fn(v(1)), lam(fun, v(1))}, {two(v(0), v(1)), pairOf(fun, v(0), v(1))},
	}
	for _, x := range parts {
		for op, n := range kidsByOp() {
			for kid := range n {
				asks(t, holding(op, n, kid, x[0]), holding(op, n, kid, x[1]), true)
			}
		}
		for _, in := range []func(api.Tm) api.Tm{
			func(x api.Tm) api.Tm { return app(x, num(2)) },
			func(x api.Tm) api.Tm { return app(lam(fun, app(v(0), app(v(0), num(2)))), x) },
			func(x api.Tm) api.Tm { return app(lam(pairs, two(snd(v(0)), fst(v(0)))), x) },
			func(x api.Tm) api.Tm { return two(fst(x), snd(x)) },
			func(x api.Tm) api.Tm { return rec(nat(), v(7), app(v(8), v(1), v(0)), x) },
			func(x api.Tm) api.Tm { return rec(nat(), x, two(v(0), v(1)), num(3)) },
			func(x api.Tm) api.Tm { return quo(plus(spl(x), spl(x))) },
			func(x api.Tm) api.Tm { return fn(fn(app(term.Shift(x, 2, 0), v(1), v(0)))) },
		} {
			asks(t, in(x[0]), in(x[1]), true)
		}
	}
}
