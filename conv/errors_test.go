package conv

import (
	"testing"

	"thyrsus/api"
	"thyrsus/norm"
	"thyrsus/term"
)

// deep is a number that is too deep, great is code that is too great, both by their steps.
func deep() api.Tm { return add(num(60), num(60)) }

func great() api.Tm {
	lifted := of(api.Lift, of(api.TInt))
	return rec(lifted, quo(i(1)), quo(plus(spl(v(0)), spl(v(0)))), num(20))
}

// long is 1 or Zero, by too many steps.
func long() api.Tm {
	flip := fn(rec(nat(), num(1), zero(), v(0)))
	often := rec(pi(nat(), nat()), flip, fn(app(v(1), app(v(1), v(0)))), num(60))
	return app(often, num(1))
}

// P601: the first one's error, else the second one's, with a false beside it.
func TestErrors(t *testing.T) {
	if _, e := norm.Normal(long()); e != api.ErrFuel {
		t.Fatalf("%v: not long", e)
	}
	for _, x := range []struct {
		bad  api.Tm
		want api.Errno
	}{{deep(), api.ErrDeep}, {great(), api.ErrDeep}, {long(), api.ErrFuel}} {
		for _, good := range []api.Tm{v(0), num(3), wide(v(3)), two(v(1), v(2)), num(119), quo(i(1))} {
			refused(t, x.bad, good, x.want)
			refused(t, good, x.bad, x.want)
		}
		refused(t, x.bad, x.bad, x.want) // though they are the same
		refused(t, wide(x.bad), x.bad, x.want)
		refused(t, x.bad, deep(), x.want)
		refused(t, x.bad, great(), x.want)
		refused(t, x.bad, long(), x.want)
	}
}

// P601: errors of parts: below binders, in types that are not compared, in arguments.
func TestErrorsOfParts(t *testing.T) {
	for _, bad := range []api.Tm{deep(), great()} {
		for op, n := range kidsByOp() {
			for kid := range n {
				at := holding(op, n, kid, app(v(3), bad))
				refused(t, at, v(1), api.ErrDeep)
				refused(t, v(1), at, api.ErrDeep)
			}
		}
		refused(t, lam(app(v(3), bad), v(0)), fn(v(0)), api.ErrDeep)
		refused(t, two(v(0), v(1)), pairOf(sig(app(v(3), bad), nat()), v(0), v(1)), api.ErrDeep)
		refused(t, fn(app(v(1), lam(app(v(3), bad), v(0)), v(0))), app(v(0), fn(v(0))), api.ErrDeep)
		asks(t, fst(two(v(3), bad)), v(3), true) // gone by a step
		asks(t, app(fn(v(4)), bad), v(3), true)
	}
}

// code is object code of so many nodes, an odd count.
func code(n int) api.Tm {
	if n == 1 {
		return i(0)
	}
	a := (n-1)/4*2 + 1
	return plus(code(a), code(n-1-a))
}

// P601: as great and as deep as a normal form may be, and one more; what eta takes away counts.
func TestEdges(t *testing.T) {
	asks(t, num(119), sucs(60, num(59)), true)
	asks(t, num(119), num(118), false)
	refused(t, num(120), num(119), api.ErrDeep)
	refused(t, num(119), num(120), api.ErrDeep)
	if term.Size(quo(code(2999))) != 3000 {
		t.Fatal("not 3000")
	}
	asks(t, quo(code(2999)), quo(spl(quo(code(2999)))), true)
	refused(t, quo(code(3001)), quo(code(2999)), api.ErrDeep)
	refused(t, quo(code(2999)), quo(code(3001)), api.ErrDeep)
	asks(t, fn(app(v(1), num(116), v(0))), app(v(0), num(116)), true) // the Lam is 120 deep
	refused(t, fn(app(v(1), num(117), v(0))), app(v(0), num(117)), api.ErrDeep)
	refused(t, app(v(0), num(117)), fn(app(v(1), num(117), v(0))), api.ErrDeep)
	asks(t, app(v(0), num(118)), app(v(0), add(num(59), num(59))), true)
}

// P601: what Normal tells of each is what is told, of whatever is handed in.
func TestErrorsAreNormals(t *testing.T) {
	d := &die{211}
	bad := []api.Tm{deep(), great(), num(120), quo(code(3001))}
	some := func() api.Tm {
		x := d.any(2 + d.of(6))
		if d.of(2) == 0 {
			return app(v(2), x, bad[d.of(len(bad))])
		}
		return x
	}
	first, second := 0, 0
	for range 2000 {
		a, b := some(), some()
		_, want := norm.Normal(a)
		if want != api.OK {
			first++
		} else if _, want = norm.Normal(b); want != api.OK {
			second++
		}
		if is, e := Equal(a, b); e != want || e != api.OK && is {
			t.Errorf("%s, %s: %v, %v, not %v", short(a), short(b), is, e, want)
		}
	}
	if first < 200 || second < 200 {
		t.Errorf("only %d, %d", first, second)
	}
}
