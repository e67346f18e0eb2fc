package stage

import (
	"strings"
	"testing"

	"thyrsus/api"
	"thyrsus/kernel"
	"thyrsus/norm"
	"thyrsus/term"
)

// sized is object code of so many nodes (any count but 2), nothing spliced in it.
func sized(n int) api.Tm {
	if n == 1 {
		return i(0)
	}
	both := n - 1
	if n%2 == 0 {
		both--
	}
	a := both/4*2 + 1 // odd, as the other one
	if n%2 == 0 {
		return oIf(i(0), sized(a), sized(both-a))
	}
	return plus(sized(a), sized(both-a))
}

// doubled is code of x, twice as great each time.
func doubled(n int, x api.Tm) api.Tm {
	return rec(lifted(), quo(x), quo(plus(spl(v(0)), spl(v(0)))), num(n))
}

// chained is code of x that is deeper by so much.
func chained(n, x api.Tm) api.Tm { return rec(lifted(), x, quo(plus(i(1), spl(v(0)))), n) }

// is checks that a term has a type at stage 0 among no variables, and what Stage answers: an error, or code of so many nodes.
func is(t *testing.T, x api.Tm, want api.Errno, size int) {
	t.Helper()
	a, e := kernel.Infer(nil, 0, x)
	if e != api.OK {
		t.Fatalf("%s: no type: %v", short(x), e)
	}
	y, e := Stage(x)
	if e != want || e != api.OK && !empty(y) || e == api.OK && term.Size(y) != size {
		t.Errorf("%s: %s, %v, %d nodes, not %v, %d", short(x), short(y), e, term.Size(y), want, size)
	}
	if e == api.OK {
		isCode(t, y, a)
	}
}

// P1001: code of too many nodes.
func TestTooManyNodes(t *testing.T) {
	for _, n := range []int{1, 3, 4, 1499, 2998, 2999, 3000} {
		is(t, sized(n), api.OK, n)
	}
	is(t, spl(quo(sized(2998))), api.OK, 2998)
	is(t, spl(doubled(0, i(1))), api.OK, 1)
	is(t, spl(doubled(10, i(1))), api.OK, 2047)
	is(t, spl(doubled(11, i(1))), api.ErrDeep, 0)
	is(t, spl(doubled(38, i(1))), api.ErrDeep, 0)
	is(t, spl(doubled(1, sized(1499))), api.OK, 2999)
	is(t, spl(doubled(1, sized(1500))), api.ErrDeep, 0)
	half := write(quo(oIf(i(1), spl(v(0)), spl(v(0)))))
	is(t, spl(app(half, quo(sized(1499)))), api.OK, 3000)
	is(t, spl(app(half, quo(sized(1500)))), api.ErrDeep, 0)
	is(t, plus(spl(app(half, quo(sized(1497)))), i(1)), api.OK, 2998)
	is(t, plus(plus(spl(app(half, quo(sized(1497)))), i(1)), i(1)), api.OK, 3000)
	is(t, oIf(spl(app(half, quo(sized(1497)))), sized(3), sized(1)), api.ErrDeep, 0)
	is(t, oLet(sized(1400), spl(doubled(8, v(0)))), api.OK, 1+1400+511)
}

// P1001: code that is too deep.
func TestTooDeep(t *testing.T) {
	lams := func(n int, x api.Tm) api.Tm {
		for range n {
			x = oLam(whole(), x)
		}
		return x
	}
	for _, n := range []int{0, 1, 59, 60, 118, 119} {
		stages(t, lams(n, i(1)), strings.Repeat("(20 15 ", n)+"i1"+strings.Repeat(")", n))
	}
	is(t, spl(chained(num(60), chained(num(59), quo(i(1))))), api.OK, 239)
	is(t, spl(chained(num(60), chained(num(60), quo(i(1))))), api.ErrDeep, 0)
	is(t, spl(chained(add(num(60), num(59)), quo(i(1)))), api.OK, 239)
	is(t, spl(chained(add(num(60), num(60)), quo(i(1)))), api.ErrDeep, 0)
	is(t, lams(9, spl(chained(add(num(60), num(50)), quo(v(8))))), api.OK, 239)
	is(t, lams(10, spl(chained(add(num(60), num(50)), quo(v(8))))), api.ErrDeep, 0)
	is(t, oLet(i(1), lams(5, spl(chained(add(num(60), num(60)), quo(v(5)))))), api.ErrDeep, 0)
	// types, too
	is(t, oLam(curried(add(num(60), num(58))), i(1)), api.OK, 1+237+1)
	refused(t, oLam(curried(add(num(60), num(59))), i(1)), api.ErrDeep)
	refused(t, oFix(curried(add(num(60), num(60))), v(0)), api.ErrDeep)
}

// often is a number, by 2^n steps.
func often(n int) api.Tm {
	flip := lam(nat(), rec(nat(), num(1), zero(), v(0)))
	return app(rec(pi(nat(), nat()), flip, lam(nat(), app(v(1), app(v(1), v(0)))), num(n)), num(1))
}

// P1001: code that takes too many steps.
func TestTooManySteps(t *testing.T) {
	for _, x := range []api.Tm{
		spl(rec(lifted(), quo(i(1)), quo(plus(spl(v(0)), i(1))), often(60))),
		oLam(whole(), spl(rec(lifted(), quo(i(1)), quo(plus(spl(v(0)), v(2))), often(60)))),
		oLet(i(1), oPair(v(0), spl(app(lam(nat(), rec(lifted(), quo(v(1)), quo(i(2)), v(0))), often(50))))),
	} {
		if _, e := kernel.Infer(nil, 0, x); e != api.OK {
			t.Fatalf("%s: no type: %v", short(x), e)
		}
		_, want := norm.Normal(x)
		if !heavy(want) {
			t.Fatalf("%s: %v", short(x), want)
		}
		refused(t, x, want)
	}
	if _, e := Stage(spl(rec(lifted(), quo(i(1)), quo(plus(spl(v(0)), i(1))), often(60)))); e != api.ErrFuel {
		t.Errorf("%v", e)
	}
	stages(t, spl(rec(lifted(), quo(i(1)), quo(plus(spl(v(0)), i(1))), often(8))), "(26/0 i1 i1)")
	stages(t, spl(app(lam(nat(), quo(i(3))), often(60))), "i3") // nobody asks for it
	stages(t, spl(snd(pairOf(sig(nat(), lifted()), often(60), quo(i(3))))), "i3")
}

// P1001: of what has no such type, Normal's error ahead of ErrStage.
func TestErrorsOfOthers(t *testing.T) {
	refused(t, add(num(60), num(58)), api.ErrStage)
	refused(t, add(num(60), num(60)), api.ErrDeep)
	refused(t, oPair(quo(i(1)), spl(chained(add(num(60), num(60)), quo(i(1))))), api.ErrDeep)
	refused(t, quo(spl(doubled(12, i(1)))), api.ErrDeep)
	refused(t, lam(nat(), often(60)), api.ErrFuel)
	refused(t, oPair(zero(), oPair(often(60), u(0))), api.ErrFuel)
	self := lam(nat(), app(v(0), v(0)))
	refused(t, app(self, self), api.ErrFuel)
	refused(t, oPair(zero(), app(self, self)), api.ErrFuel)
	grows := lam(nat(), suc(app(v(0), v(0))))
	refused(t, app(grows, grows), api.ErrDeep)
}
