package norm

import (
	"testing"

	"thyrsus/api"
	"thyrsus/term"
)

// sized is object code of so many nodes (any count but 2), no step in it.
func sized(n int) api.Tm {
	if n == 1 {
		return i(0)
	}
	both := n - 1
	if n%2 == 0 {
		both--
	}
	a := both/4*2 + 1 // odd, as the other one
	if n%2 == 0 {
		return of(api.OIf, i(0), sized(a), sized(both-a))
	}
	return plus(sized(a), sized(both-a))
}

// tys is a type of object code, of so many nodes (an odd count).
func tys(n int) api.Tm {
	if n == 1 {
		return of(api.TInt)
	}
	a := (n-1)/4*2 + 1
	return of(api.TPro, tys(a), tys(n-1-a))
}

// P501: 3000 nodes at the most.
func TestNodes(t *testing.T) {
	for _, n := range []int{1, 3, 4, 5, 6, 7, 8, 2998, 2999, 3000} {
		if got := term.Size(sized(n)); got != n {
			t.Fatalf("%d nodes, not %d", got, n)
		}
		becomes(t, sized(n), sized(n))
	}
	for _, n := range []int{3001, 3002, 6000, 1 << 16} {
		refused(t, sized(n), api.ErrDeep)
	}
	becomes(t, quo(sized(2999)), quo(sized(2999)))
	refused(t, quo(sized(3000)), api.ErrDeep)
	becomes(t, lam(nat(), quo(sized(2997))), lam(nat(), quo(sized(2997))))
	refused(t, lam(lifted(), quo(sized(2997))), api.ErrDeep)
}

// twice is code that has the code x two times, in one step.
func twice(x api.Tm) api.Tm {
	return app(lam(lifted(), quo(plus(spl(v(0)), spl(v(0))))), x)
}

// P501: 3000 nodes that come of steps, and more; types count.
func TestNodesOfSteps(t *testing.T) {
	becomes(t, spl(twice(quo(sized(1499)))), plus(sized(1499), sized(1499)))
	becomes(t, twice(quo(sized(1499))), quo(plus(sized(1499), sized(1499)))) // 3000
	refused(t, spl(twice(quo(sized(1500)))), api.ErrDeep)                    // 3001
	refused(t, twice(quo(sized(1500))), api.ErrDeep)
	two := of(api.TPro, tys(1499), tys(1499))
	becomes(t, app(lam(of(api.Ty), of(api.Lift, of(api.TPro, v(0), v(0)))), tys(1499)), of(api.Lift, two)) // 3000
	refused(t, app(lam(of(api.Ty), lam(of(api.Lift, of(api.TPro, v(0), v(0))), v(0))), tys(1499)), api.ErrDeep)
	sig := of(api.Sig, of(api.Lift, of(api.TPro, v(0), v(0))), nat())
	refused(t, app(lam(of(api.Ty), pairOf(sig, v(2), zero())), tys(1499)), api.ErrDeep)
	becomes(t, of(api.Snd, app(lam(of(api.Ty), pairOf(sig, v(2), zero())), tys(1499))), zero())
}

// P501: 120 deep at the most: at the top, below binders, in types, behind others.
func TestDeep(t *testing.T) {
	becomes(t, num(119), num(119))
	refused(t, num(120), api.ErrDeep)
	becomes(t, add(num(59), num(60)), num(119))
	refused(t, add(num(60), num(60)), api.ErrDeep)
	becomes(t, add(v(0), num(118)), sucs(118, v(0)))
	refused(t, add(of(api.Suc, of(api.Suc, v(0))), num(118)), api.ErrDeep)
	becomes(t, app(lam(nat(), sucs(117, v(0))), num(2)), num(119))
	refused(t, app(lam(nat(), sucs(117, v(0))), num(3)), api.ErrDeep)
	becomes(t, lam(nat(), add(num(59), num(59))), lam(nat(), num(118)))
	refused(t, lam(nat(), add(num(60), num(59))), api.ErrDeep)
	becomes(t, app(v(0), zero(), add(num(59), num(59))), app(v(0), zero(), num(118)))
	refused(t, app(v(0), zero(), add(num(60), num(59))), api.ErrDeep)
	arrows := func(n int) api.Tm { return rec(u(0), nat(), of(api.Pi, nat(), v(1)), add(num(n-60), num(60))) }
	if got, e := Normal(lam(arrows(118), v(0))); e != api.OK || term.Size(got) != 2+1+2*118 {
		t.Errorf("%v, %d nodes", e, term.Size(got))
	}
	refused(t, lam(arrows(119), v(0)), api.ErrDeep)
}

// P501: short terms that double: they are too great, however great they are.
func TestDoubling(t *testing.T) {
	x, want := quo(i(1)), i(1)
	for range 10 {
		x, want = twice(x), plus(want, want)
	}
	becomes(t, x, quo(want)) // 2048 nodes
	for range 48 {
		x = twice(x)
		refused(t, x, api.ErrDeep)
	}
	codes := func(n int) api.Tm { return rec(lifted(), quo(i(1)), quo(plus(spl(v(0)), spl(v(0)))), num(n)) }
	becomes(t, codes(10), quo(want))
	powers := func(n int) api.Tm { return rec(nat(), num(1), add(v(0), v(0)), num(n)) }
	becomes(t, powers(6), num(64))
	for _, n := range []int{11, 12, 20, 60, 110} {
		refused(t, codes(n), api.ErrDeep)
		refused(t, powers(n), api.ErrDeep)
	}
}

// P501: what is great or deep on the way, and gone at the end.
func TestGreatOnTheWay(t *testing.T) {
	x := quo(i(1))
	for range 50 {
		x = twice(x)
	}
	becomes(t, of(api.Snd, pairOf(of(api.Sig, lifted(), nat()), x, num(2))), num(2))
	becomes(t, app(lam(lifted(), num(3)), x), num(3))
	becomes(t, rec(nat(), num(4), v(0), add(num(90), num(90))), num(4))
	becomes(t, of(api.Fst, pairOf(of(api.Sig, nat(), nat()), num(1), add(num(90), num(90)))), num(1))
	s, y := nat(), num(1)
	for range 8 {
		s = of(api.Sig, s, s)
		y = app(lam(s.Kids[0], pairOf(s, v(0), v(0))), y)
	}
	for k := range 8 {
		y = of([]int{api.Fst, api.Snd}[k%2], y)
	}
	becomes(t, y, num(1))
}

// idle is x by as many steps as are asked for.
func idle(steps int, x api.Tm) api.Tm { return rec(nat(), x, v(0), num(steps-1)) }

// flip is 1 of Zero, Zero of all others.
func flip(n api.Tm) api.Tm { return rec(nat(), num(1), zero(), n) }

// P501, W3: light terms are answered: those of up to a thousand steps, by value.
func TestLight(t *testing.T) {
	fun := of(api.Pi, nat(), nat())
	often := func(f api.Tm, n int) api.Tm { // f, 2^n times
		return rec(fun, f, lam(nat(), app(v(1), app(v(1), v(0)))), num(n))
	}
	shared := num(1) // needed twice at each of the levels, run once
	for range 100 {
		shared = app(lam(nat(), rec(nat(), v(0), v(0), v(0))), shared)
	}
	for _, x := range []struct {
		steps    int
		from, to api.Tm
	}{
		{1, idle(1, v(2)), v(2)},
		{100, idle(100, v(2)), v(2)},
		{1000, idle(81, rec(nat(), v(2), idle(101, v(0)), num(9))), v(2)},
		{1000, lam(nat(), idle(81, rec(nat(), v(2), idle(101, v(0)), num(9)))), lam(nat(), v(2))},
		{1000, idle(1, rec(nat(), num(20), rec(nat(), v(0), idle(8, v(0)), num(10)), idle(78, num(10)))), num(20)},
		{300, shared, num(1)},
		{904, app(often(lam(nat(), flip(v(0))), 8), num(1)), num(1)},
		{967, add(add(num(50), num(60)), app(often(lam(nat(), flip(v(0))), 8), num(1))), num(111)},
	} {
		c := counter{left: 5000}
		if got := c.normal(x.from); 5000-c.left != x.steps || term.Check(x.from) != api.OK || !term.Same(got, x.to) {
			t.Errorf("%s: by value %s in %d steps, not %d", short(x.from), short(got), 5000-c.left, x.steps)
		}
		becomes(t, x.from, x.to)
	}
}

// P501: of what is not light, an error, or what it comes to.
func TestNotLight(t *testing.T) {
	fun := of(api.Pi, nat(), nat())
	for _, n := range []int{9, 10, 11, 12, 13, 14, 15, 16, 17, 18, 20, 31, 32, 60, 100} {
		f := rec(fun, lam(nat(), flip(v(0))), lam(nat(), app(v(1), app(v(1), v(0)))), num(n))
		got, e := Normal(app(f, num(1)))
		if e != api.OK && e != api.ErrFuel && e != api.ErrDeep || e == api.OK && term.Text(got) != "(12 11)" || e != api.OK && got.Op != 0 {
			t.Errorf("%d: %s, %v", n, short(got), e)
		}
	}
}
