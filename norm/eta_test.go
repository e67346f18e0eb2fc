package norm

import (
	"testing"

	"thyrsus/api"
	"thyrsus/term"
)

// shrinks checks what Eta makes of a normal form.
func shrinks(t *testing.T, x, want api.Tm) {
	t.Helper()
	if got := Eta(x); term.Text(got) != term.Text(want) {
		t.Errorf("%s: %s, not %s", short(x), short(got), short(want))
	}
}

// fn and two are a Lam and a Pair with their types, bare and both without.
func fn(b api.Tm) api.Tm { return lam(of(api.Pi, nat(), nat()), b) }

func bare(b api.Tm) api.Tm { return lam(zero(), b) }

func two(a, b api.Tm) api.Tm { return pairOf(of(api.Sig, nat(), nat()), a, b) }

func both(a, b api.Tm) api.Tm { return pairOf(zero(), a, b) }

func fst(p api.Tm) api.Tm { return of(api.Fst, p) }

func snd(p api.Tm) api.Tm { return of(api.Snd, p) }

// P502: types of Lams and Sigs of Pairs, wherever they stand; no other types.
func TestEtaTypes(t *testing.T) {
	shrinks(t, fn(v(0)), bare(v(0)))
	shrinks(t, two(v(1), v(2)), both(v(1), v(2)))
	shrinks(t, fn(fn(two(v(0), v(1)))), bare(bare(both(v(0), v(1)))))
	for _, x := range []api.Tm{
		of(api.Pi, nat(), of(api.Sig, nat(), v(0))), rec(of(api.Pi, nat(), nat()), v(1), v(0), v(2)),
		of(api.OLam, of(api.TInt), v(0)), of(api.OFix, of(api.TInt), v(0)), of(api.OLam, v(3), of(api.OApp, v(2), v(0))),
		v(0), v(3000), u(2), i(-7), num(119), plus(i(1), i(2)), spl(v(3)), quo(v(2)), app(v(0), v(1)), fst(v(0)),
	} {
		shrinks(t, x, x)
	}
	shrinks(t, of(api.Pi, fn(v(0)), fn(v(1))), of(api.Pi, bare(v(0)), bare(v(1))))
	shrinks(t, rec(of(api.Pi, fn(v(0)), nat()), fn(v(0)), fn(v(1)), app(v(0), fn(v(0)))),
		rec(of(api.Pi, bare(v(0)), nat()), bare(v(0)), bare(v(1)), app(v(0), bare(v(0)))))
	shrinks(t, lam(fn(app(v(1), v(0))), v(0)), bare(v(0)))
}

// P502: a Lam that only hands its argument on, and those that do not.
func TestEtaLam(t *testing.T) {
	for n := 1; n < 5; n++ {
		shrinks(t, fn(app(v(n), v(0))), v(n-1))
		shrinks(t, fn(app(v(n), v(n))), bare(app(v(n), v(n))))
		shrinks(t, fn(app(v(0), v(n))), bare(app(v(0), v(n))))
		shrinks(t, fn(app(v(n), of(api.Suc, v(0)))), bare(app(v(n), of(api.Suc, v(0)))))
	}
	shrinks(t, fn(app(v(3000), v(0))), v(2999))
	for _, x := range []api.Tm{
		app(v(0), v(0)), app(v(1), v(0), v(0)), app(fst(v(0)), v(0)), app(v(1), zero()), app(v(1), u(0)), app(v(1), i(0)),
		app(rec(nat(), v(1), v(2), v(1)), v(0)), // 0 below two binders
		of(api.OApp, v(1), v(0)), of(api.Suc, v(0)), v(1),
	} {
		shrinks(t, fn(x), bare(x))
	}
	// what is bound in f stays, what is free in it is one less
	shrinks(t, fn(app(rec(v(0), v(2), app(v(0), v(1), v(3)), v(1)), v(0))), rec(v(0), v(1), app(v(0), v(1), v(2)), v(0)))
	shrinks(t, fn(app(v(2), fn(fn(app(v(0), v(3)))), v(0))), app(v(1), bare(bare(app(v(0), v(2))))))
	shrinks(t, fn(app(app(v(1), fn(fn(app(v(0), v(2))))), v(0))), bare(app(app(v(1), bare(bare(app(v(0), v(2))))), v(0))))
	shrinks(t, fn(app(app(v(1), fn(v(0))), v(0))), app(v(0), bare(v(0))))
	// the variable was only in what gives way
	shrinks(t, fn(app(app(v(1), lam(v(0), v(0))), v(0))), app(v(0), bare(v(0))))
}

// P502: a Pair of one term's two parts, and those that are not.
func TestEtaPair(t *testing.T) {
	for _, p := range []api.Tm{v(0), v(3000), app(v(1), zero()), fst(v(2)), snd(snd(v(2))), rec(nat(), v(0), v(1), v(2))} {
		shrinks(t, two(fst(p), snd(p)), p)
		for _, x := range [][2]api.Tm{{snd(p), fst(p)}, {fst(p), fst(p)}, {snd(p), snd(p)}, {fst(p), p}, {p, snd(p)},
			{fst(p), snd(v(9))}, {fst(v(9)), snd(p)}, {fst(p), snd(fst(p))}, {of(api.OFst, p), of(api.OSnd, p)}} {
			shrinks(t, two(x[0], x[1]), both(x[0], x[1]))
		}
	}
	// the same when what gives way is gone
	shrinks(t, two(fst(app(v(1), fn(v(0)))), snd(app(v(1), lam(nat(), v(0))))), app(v(1), bare(v(0))))
	shrinks(t, two(fst(app(v(1), fn(app(v(3), v(0))))), snd(app(v(1), v(2)))), app(v(1), v(2)))
	shrinks(t, of(api.OPair, of(api.OFst, v(0)), of(api.OSnd, v(0))), of(api.OPair, of(api.OFst, v(0)), of(api.OSnd, v(0))))
}

// P502: from the inside out: what one rule leaves is another one's.
func TestEtaInsideOut(t *testing.T) {
	shrinks(t, fn(fn(app(v(5), v(1), v(0)))), v(3))
	shrinks(t, fn(fn(fn(app(v(5), v(2), v(1), v(0))))), v(2))
	shrinks(t, fn(fn(app(v(5), v(0), v(1)))), bare(bare(app(v(5), v(0), v(1)))))
	shrinks(t, fn(two(fst(app(v(4), v(0))), snd(app(v(4), v(0))))), v(3))
	shrinks(t, two(two(fst(fst(v(1))), snd(fst(v(1)))), snd(v(1))), v(1))
	shrinks(t, two(fst(v(1)), two(fst(snd(v(1))), snd(snd(v(1))))), v(1))
	shrinks(t, two(fn(app(fst(v(2)), v(0))), fn(app(snd(v(2)), v(0)))), v(1))
	shrinks(t, fn(app(v(1), fn(app(v(1), v(0))))), v(0))
	shrinks(t, fn(app(v(1), two(fst(v(0)), snd(v(0))))), v(0))
}

// P502: in each kid of each Op.
func TestEtaInEachPlace(t *testing.T) {
	for op, n := range kidsByOp() {
		for kid := range n {
			f, p := fn(app(v(8), v(0))), two(fst(v(7)), snd(v(7)))
			for _, x := range []api.Tm{f, p, two(fst(f), snd(f))} {
				want := holding(op, n, kid, v(7))
				if op == api.Lam || op == api.Pair {
					want.Kids[0] = zero()
				}
				shrinks(t, holding(op, n, kid, x), want)
			}
		}
	}
}

// P502: as great and as deep as a normal form may be.
func TestEtaGreatest(t *testing.T) {
	shrinks(t, sized(3000), sized(3000))
	x, want := v(200), v(199)
	for range 59 {
		x, want = app(v(100), x), app(v(99), want)
	}
	shrinks(t, fn(app(x, v(0))), want)
	deep := v(59)
	for n := range 59 {
		deep = app(deep, v(58-n))
	}
	for range 59 {
		deep = fn(deep)
	}
	if term.Check(deep) != api.OK {
		t.Fatal("no term")
	}
	shrinks(t, deep, v(0))
}

// etaSteps are all that one rule makes of a term without types, anywhere.
func etaSteps(x api.Tm) []api.Tm {
	var l []api.Tm
	switch {
	case x.Op == api.Lam && x.Kids[1].Op == api.App && term.Text(x.Kids[1].Kids[1]) == "v0":
		if f := x.Kids[1].Kids[0]; !term.Free(f, 0) {
			l = append(l, term.Subst(f, 0, v(77)))
		}
	case x.Op == api.Pair && x.Kids[1].Op == api.Fst && x.Kids[2].Op == api.Snd:
		if p := x.Kids[1].Kids[0]; term.Same(p, x.Kids[2].Kids[0]) {
			l = append(l, p)
		}
	}
	for k := range x.Kids {
		for _, y := range etaSteps(x.Kids[k]) {
			l = append(l, replaced(x, k, y))
		}
	}
	return l
}

// typeless is a term whose Lams and Pairs have Zero for a type.
func typeless(x api.Tm) api.Tm {
	for k := range x.Kids {
		x = replaced(x, k, typeless(x.Kids[k]))
	}
	if x.Op == api.Lam || x.Op == api.Pair {
		x = replaced(x, 0, zero())
	}
	return x
}

// grown is a term some parts of which are what eta takes away.
func (d *die) grown(x api.Tm) api.Tm {
	for k := range x.Kids {
		x = replaced(x, k, d.grown(x.Kids[k]))
	}
	switch d.of(6) {
	case 0:
		return fn(app(term.Shift(x, 1, 0), v(0)))
	case 1:
		return two(fst(x), snd(x))
	}
	return x
}

// P502: normal forms of any terms, against rules taken in any order till none is left.
func TestEtaOfAny(t *testing.T) {
	d := &die{113}
	changed := 0
	for _, x := range typedTerms(t, 127, 1500) {
		x, e := Normal(x)
		if e != api.OK || term.Size(x) > 150 {
			continue
		}
		if d.of(2) == 0 {
			x = d.grown(x)
		}
		if term.Check(x) != api.OK {
			continue
		}
		want := typeless(x)
		for l := etaSteps(want); len(l) > 0; l = etaSteps(want) {
			want = l[d.of(len(l))]
			changed++
		}
		shrinks(t, x, want)
		shrinks(t, want, want)
	}
	if changed < 1000 {
		t.Errorf("only %d", changed)
	}
}
