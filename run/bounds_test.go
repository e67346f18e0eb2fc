package run

import (
	"strconv"
	"strings"
	"testing"

	"thyrsus/api"
	"thyrsus/obj"
	"thyrsus/term"
)

// wrapped is x below so many of what around makes.
func wrapped(n int, x api.Tm, around func(api.Tm) api.Tm) api.Tm {
	for range n {
		x = around(x)
	}
	return x
}

// turns is closed code that calls itself n times, as the last thing that it does; each time it tells x, among its number (v0) and itself (v1), and at last x.
func turns(n int, x api.Tm) api.Tm {
	return oApp(oFix(f(), oLam(whole(), oLet(x, oIf(v(1), oApp(v(2), minus(v(1), i(1))), v(0))))), i(n))
}

// sums is a term of n times x, as flat as may be.
func sums(n int, x api.Tm) api.Tm {
	if n == 1 {
		return x
	}
	return plus(sums(n/2, x), sums(n-n/2, x))
}

// P1201: code as deep as may be, of each Op that may stand in itself.
func TestDeepCode(t *testing.T) {
	const n = api.MaxDeep - 1
	for _, x := range []struct {
		x     api.Tm
		want  string
		steps int
	}{
		{wrapped(n, i(1), func(x api.Tm) api.Tm { return plus(i(1), x) }), "120", 0},
		{wrapped(n, i(1), func(x api.Tm) api.Tm { return plus(x, i(1)) }), "120", 0},
		{wrapped(n, i(1), func(x api.Tm) api.Tm { return oLam(whole(), x) }), "fn", 0},
		{wrapped(n, i(1), func(x api.Tm) api.Tm { return oLet(i(2), x) }), "1", 0},
		{wrapped(n, i(1), func(x api.Tm) api.Tm { return oLet(x, v(0)) }), "1", 0},
		{wrapped(n, v(n-1), func(x api.Tm) api.Tm { return oLet(i(2), x) }), "2", 0},
		{wrapped(n, i(1), func(x api.Tm) api.Tm { return oIf(x, i(3), i(4)) }), "3", 0},
		{wrapped(n, i(1), func(x api.Tm) api.Tm { return oIf(i(0), i(3), x) }), "1", 0},
		{wrapped(n, i(1), func(x api.Tm) api.Tm { return oIf(i(5), x, i(3)) }), "1", 0},
		{wrapped(n, i(1), func(x api.Tm) api.Tm { return oFix(whole(), x) }), "1", 0},
		{wrapped(n-1, i(1), func(x api.Tm) api.Tm { return oApp(id(), x) }), "1", n - 1},
		{wrapped(n-2, id(), func(x api.Tm) api.Tm { return oApp(oLam(f(), v(0)), x) }), "fn", n - 2},
		{wrapped(n/2, i(1), func(x api.Tm) api.Tm { return oApp(oLam(whole(), x), i(1)) }), "1", n / 2},
		{wrapped(n/2, i(1), func(x api.Tm) api.Tm { return oFst(oPair(x, i(2))) }), "1", 0},
		{wrapped(n/2, i(1), func(x api.Tm) api.Tm { return oSnd(oPair(i(2), x)) }), "1", 0},
		{wrapped(n, i(1), func(x api.Tm) api.Tm { return oPair(x, i(2)) }), strings.Repeat("(", n) + "1" + strings.Repeat(", 2)", n), 0},
		{wrapped(n, i(1), func(x api.Tm) api.Tm { return oPair(i(2), x) }), strings.Repeat("(2, ", n) + "1" + strings.Repeat(")", n), 0},
	} {
		runs(t, x.x, x.want, x.steps)
	}
}

// P1201: a function of many numbers, each handed by itself.
func TestFunctionsOfMany(t *testing.T) {
	const n = 58
	for at := 0; at < n; at += 19 {
		many := wrapped(n, v(at), func(x api.Tm) api.Tm { return oLam(whole(), x) })
		for k := range n {
			runs(t, oPair(i(k), many), "("+strconv.Itoa(k)+", fn)", k)
			many = oApp(many, i(100+k))
		}
		runs(t, many, strconv.Itoa(100+n-1-at), n)
	}
}

// P1201: code of nearly as many nodes as a term has, told once, and as often as may be.
func TestBroadCode(t *testing.T) {
	runs(t, sums(1500, i(3)), "4500", 0)
	runs(t, sums(300, after(1, i(2))), "600", 300)
	runs(t, sums(250, oFst(oPair(i(2), oLet(i(3), plus(v(0), v(0)))))), "500", 0)
	runs(t, turns(3, sums(1400, v(0))), "0", 7)
	for _, x := range []api.Tm{sums(1400, i(1)), sums(280, oLet(plus(v(0), v(0)), minus(plus(v(0), i(1)), v(0)))), sums(400, oFst(oPair(i(1), id())))} {
		want, _, _ := Run(oLet(i(0), x), 0)
		runsWith(t, turns(32767, x), api.MaxFuel, Text(want), 65535)
	}
	fails(t, turns(32768, sums(1400, i(1))), api.MaxFuel, api.ErrFuel, api.MaxFuel)
}

// P1201: as many steps as there may be, each of them waiting in the one ahead of it; what waits is deep as well.
func TestLongRuns(t *testing.T) {
	sum := func(n int) api.Tm {
		return oApp(oFix(f(), oLam(whole(), oIf(v(0), plus(v(0), oApp(v(1), minus(v(0), i(1)))), i(0)))), i(n))
	}
	runs(t, sum(32767), strconv.Itoa(32767*32768/2), 65535)
	runs(t, after(1, sum(32767)), strconv.Itoa(32767*32768/2), 65536)
	fails(t, sum(32768), api.MaxFuel, api.ErrFuel, api.MaxFuel)
	fails(t, sum(1<<40), api.MaxFuel, api.ErrFuel, api.MaxFuel)
	fails(t, sum(-1), api.MaxFuel, api.ErrFuel, api.MaxFuel)
	inward := func(n int) api.Tm { // a function of a function of .., then called
		return oApp(oApp(oFix(tFun(whole(), f()), oLam(whole(), oIf(v(0), oLet(oApp(v(1), minus(v(0), i(1))), oLam(whole(), plus(i(1), oApp(v(1), v(0))))), id()))), i(n)), i(0))
	}
	runs(t, inward(20000), "20000", 1+2*20000+1+20000)
	fails(t, inward(30000), api.MaxFuel, api.ErrFuel, api.MaxFuel)
	const n = api.MaxDeep - 2
	for _, x := range []api.Tm{
		wrapped(n-1, v(0), func(x api.Tm) api.Tm { return plus(i(1), x) }),
		wrapped(n-1, v(0), func(x api.Tm) api.Tm { return plus(x, i(1)) }),
		wrapped(n, v(n), func(x api.Tm) api.Tm { return oFix(whole(), x) }),
		wrapped(n, v(n), func(x api.Tm) api.Tm { return oLet(i(1), x) }),
		wrapped(n, v(0), func(x api.Tm) api.Tm { return oLet(x, v(0)) }),
		wrapped(n, v(0), func(x api.Tm) api.Tm { return oIf(x, i(1), i(2)) }),
		wrapped(n/2, v(0), func(x api.Tm) api.Tm { return oFst(oPair(i(1), x)) }),
	} {
		fails(t, oFix(whole(), x), api.MaxFuel, api.ErrFuel, api.MaxFuel)
	}
}

// P1201: values as great as their types may be.
func TestGreatValues(t *testing.T) {
	full, want := i(1), "1"
	for range 10 {
		full = oLet(full, oPair(v(0), v(0)))
		want = "(" + want + ", " + want + ")"
	}
	runs(t, full, want, 0)
	y, _, _ := Run(full, 0)
	if a, _ := obj.Infer(nil, full); !obj.Fits(y, a) || term.Size(a) != 2047 {
		t.Errorf("%s", short(a))
	}
	fails(t, oLet(full, oPair(v(0), v(0))), 0, api.ErrDeep, 0) // its type is none
}
