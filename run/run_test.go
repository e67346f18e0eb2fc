package run

import (
	"math"
	"strconv"
	"testing"

	"thyrsus/api"
)

// P1201: fuel is 0 to 65536, whatever the code is.
func TestFuelThatMayBe(t *testing.T) {
	for _, fuel := range []int{-1, 65537, -65536, 1 << 17, math.MinInt, math.MaxInt, 1 << 32, 1<<32 + 5} {
		for _, x := range []api.Tm{i(1), oApp(id(), i(1)), by(i(1), i(0)), endless(whole()), v(0), nat(), {}} {
			fails(t, x, fuel, api.ErrArg, 0)
		}
	}
	for _, fuel := range []int{0, 1, 65535, 65536} {
		if y, n, e := Run(i(7), fuel); y.N != 7 || n != 0 || e != api.OK {
			t.Errorf("fuel %d: %v, %d, %v", fuel, y, n, e)
		}
		fails(t, endless(whole()), fuel, api.ErrFuel, fuel)
		fails(t, by(i(1), i(0)), fuel, api.ErrZero, 0)
	}
	fails(t, oApp(id(), i(1)), 0, api.ErrFuel, 0)
	runs(t, oApp(id(), i(1)), "1", 1)
}

// P1201: each Op by itself.
func TestEachOp(t *testing.T) {
	for _, x := range []struct {
		x     api.Tm
		want  string
		steps int
	}{
		{i(0), "0", 0}, {i(3), "3", 0}, {i(-3), "-3", 0}, {i(math.MaxInt), "9223372036854775807", 0}, {i(math.MinInt), "-9223372036854775808", 0},
		{id(), "fn", 0}, {oLam(p(), oLam(f(), i(1))), "fn", 0}, {oLam(whole(), by(i(1), i(0))), "fn", 0}, {oLam(whole(), endless(whole())), "fn", 0},
		{oApp(id(), i(4)), "4", 1}, {oApp(oLam(f(), v(0)), id()), "fn", 1}, {oApp(oLam(whole(), i(5)), i(4)), "5", 1}, {oApp(oLam(f(), oApp(v(0), i(3))), oLam(whole(), times(v(0), v(0)))), "9", 2},
		{oPair(i(1), i(2)), "(1, 2)", 0}, {oPair(id(), oPair(i(2), id())), "(fn, (2, fn))", 0},
		{oFst(oPair(i(1), i(2))), "1", 0}, {oSnd(oPair(i(1), i(2))), "2", 0}, {oFst(oSnd(oPair(i(1), oPair(i(2), i(3))))), "2", 0}, {oApp(oFst(oPair(id(), i(1))), i(6)), "6", 1},
		{plus(i(1), i(2)), "3", 0}, {minus(i(1), i(2)), "-1", 0}, {times(i(3), i(-2)), "-6", 0}, {by(i(7), i(2)), "3", 0}, {less(i(1), i(2)), "1", 0}, {less(i(2), i(1)), "0", 0},
		{oIf(i(1), i(2), i(3)), "2", 0}, {oIf(i(0), i(2), i(3)), "3", 0}, {oIf(i(-1), i(2), i(3)), "2", 0}, {oIf(i(math.MinInt), i(2), i(3)), "2", 0}, {oIf(i(1<<32), i(2), i(3)), "2", 0}, {oIf(minus(i(4), i(4)), id(), oLam(whole(), i(1))), "fn", 0},
		{oLet(i(1), i(2)), "2", 0}, {oLet(i(3), plus(v(0), v(0))), "6", 0}, {oLet(id(), oApp(v(0), oApp(v(0), i(1)))), "1", 2}, {oLet(i(1), oLet(i(2), oPair(v(0), v(1)))), "(2, 1)", 0}, {oLet(oLet(i(1), v(0)), oPair(v(0), oLet(i(2), v(1)))), "(1, 1)", 0},
		{oFix(whole(), i(7)), "7", 0}, {oFix(f(), id()), "fn", 0}, {oFix(f(), oLam(whole(), oApp(v(1), v(0)))), "fn", 0}, {oApp(oFix(f(), oLam(whole(), v(0))), i(2)), "2", 1}, {oFix(whole(), oIf(i(1), i(3), v(0))), "3", 0}, {oFix(p(), oPair(i(1), i(2))), "(1, 2)", 0}, {oFix(whole(), oFix(whole(), i(1))), "1", 0},
	} {
		runs(t, x.x, x.want, x.steps)
		runs(t, after(2, x.x), x.want, x.steps+2)
		runs(t, oFst(oPair(x.x, id())), x.want, x.steps)
		runs(t, oPair(oIf(i(0), i(1), i(2)), x.x), "(2, "+x.want+")", x.steps)
		runs(t, oLet(i(9), oLet(x.x, oPair(v(0), v(1)))), "("+x.want+", 9)", x.steps)
		runs(t, oPair(oFix(f(), id()), oPair(x.x, x.x)), "(fn, ("+x.want+", "+x.want+"))", 2*x.steps)
	}
}

// reckoned checks all five of two numbers.
func reckoned(t *testing.T, a, b int, sum, diff, product, quotient, lesser string) {
	t.Helper()
	x, y := i(a), i(b)
	runs(t, plus(x, y), sum, 0)
	runs(t, minus(x, y), diff, 0)
	runs(t, times(x, y), product, 0)
	runs(t, less(x, y), lesser, 0)
	if b == 0 {
		divides(t, by(x, y), 0)
	} else {
		runs(t, by(x, y), quotient, 0)
	}
	runs(t, oApp(oApp(oLam(whole(), oLam(whole(), minus(v(1), v(0)))), x), y), diff, 2)
}

// P1201: numbers of 64 bits with a sign; the lowest 64 bits of what is beyond them.
func TestNumbers(t *testing.T) {
	const least, most = math.MinInt, math.MaxInt
	const lo, hi = "-9223372036854775808", "9223372036854775807"
	reckoned(t, 7, 2, "9", "5", "14", "3", "0")
	reckoned(t, -7, 2, "-5", "-9", "-14", "-3", "1")
	reckoned(t, 7, -2, "5", "9", "-14", "-3", "0")
	reckoned(t, -7, -2, "-9", "-5", "14", "3", "1")
	reckoned(t, 1, 2, "3", "-1", "2", "0", "1")
	reckoned(t, -1, 2, "1", "-3", "-2", "0", "1")
	reckoned(t, 0, 5, "5", "-5", "0", "0", "1")
	reckoned(t, 0, -5, "-5", "5", "0", "0", "0")
	reckoned(t, 5, 0, "5", "5", "0", "", "0")
	reckoned(t, -5, 0, "-5", "-5", "0", "", "1")
	reckoned(t, 0, 0, "0", "0", "0", "", "0")
	reckoned(t, 6, 6, "12", "0", "36", "1", "0")
	reckoned(t, least, 0, lo, lo, "0", "", "1")
	reckoned(t, least, -1, hi, "-9223372036854775807", lo, lo, "1")
	reckoned(t, least, 1, "-9223372036854775807", hi, lo, lo, "1")
	reckoned(t, least, least, "0", "0", "0", "1", "0")
	reckoned(t, least, most, "-1", "1", lo, "-1", "1")
	reckoned(t, most, least, "-1", "-1", lo, "0", "0")
	reckoned(t, most, most, "-2", "0", "1", "1", "0")
	reckoned(t, most, 1, lo, "9223372036854775806", hi, hi, "0")
	reckoned(t, most, -1, "9223372036854775806", lo, "-9223372036854775807", "-9223372036854775807", "0")
	reckoned(t, most, 2, "-9223372036854775807", "9223372036854775805", "-2", "4611686018427387903", "0")
	reckoned(t, 2, most, "-9223372036854775807", "-9223372036854775805", "-2", "0", "1")
	reckoned(t, least, 2, "-9223372036854775806", "9223372036854775806", "0", "-4611686018427387904", "1")
	reckoned(t, -1, least, hi, hi, lo, "0", "0")
	reckoned(t, 0, least, lo, lo, "0", "0", "0")
	reckoned(t, 1<<62, 4, "4611686018427387908", "4611686018427387900", "0", "1152921504606846976", "0")
	reckoned(t, 1<<32, 1<<32, "8589934592", "0", "0", "1", "0")
	reckoned(t, 1<<32+1, 1<<32-1, "8589934592", "2", "-1", "1", "0")
	reckoned(t, 3037000500, 3037000500, "6074001000", "0", "-9223372036709301616", "1", "0")
}

// fact, fib are functions that call themselves.
func fact() api.Tm {
	return oFix(f(), oLam(whole(), oIf(v(0), times(v(0), oApp(v(1), minus(v(0), i(1)))), i(1))))
}

func fib() api.Tm {
	return oFix(f(), oLam(whole(), oIf(less(v(0), i(2)), v(0), plus(oApp(v(1), minus(v(0), i(1))), oApp(v(1), minus(v(0), i(2)))))))
}

// ack is one of two numbers, that hands itself what it tells.
func ack() api.Tm {
	m, n := v(1), v(0)
	call := func(a, b api.Tm) api.Tm { return oApp(oApp(v(2), a), b) }
	return oFix(tFun(whole(), f()), oLam(whole(), oLam(whole(), oIf(m, oIf(n, call(minus(m, i(1)), call(m, minus(n, i(1)))), call(minus(m, i(1)), i(1))), plus(n, i(1))))))
}

// even is the first of two functions that call one another.
func even() api.Tm {
	other := func(part api.Tm, last int) api.Tm {
		return oLam(whole(), oIf(v(0), oApp(part, minus(v(0), i(1))), i(last)))
	}
	return oFst(oFix(tPro(f(), f()), oPair(other(oSnd(v(1)), 1), other(oFst(v(1)), 0))))
}

// P1201: what calls itself, and comes to an end: of each turn two steps, its name and its call.
func TestRecursion(t *testing.T) {
	product, a, b := 1, 0, 1
	calls := []int{1, 1}
	for n := range 19 {
		runs(t, oApp(fact(), i(n)), strconv.Itoa(product), 1+2*n)
		runs(t, oApp(even(), i(n)), strconv.Itoa(1-n%2), 1+2*n)
		if n > 1 {
			calls = append(calls, calls[n-1]+calls[n-2]+1)
		}
		runs(t, oApp(fib(), i(n)), strconv.Itoa(a), 2*calls[n]-1)
		product *= n + 1
		a, b = b, a+b
	}
	steps := 0
	for m := range 4 {
		for n := range 4 {
			steps = 0
			want := acker(m, n, &steps)
			runs(t, oApp(oApp(ack(), i(m)), i(n)), strconv.Itoa(want), steps-1)
		}
	}
	runs(t, oApp(fact(), i(66)), "0", 133) // the product of so many has 64 lowest bits of nought
	fails(t, oApp(fact(), i(-1)), 999, api.ErrFuel, 999)
}

// acker tells the same by itself, and the steps: of a turn its name, and two calls.
func acker(m, n int, steps *int) int {
	*steps += 3
	switch {
	case m == 0:
		return n + 1
	case n == 0:
		return acker(m-1, 1, steps)
	}
	return acker(m-1, acker(m, n-1, steps), steps)
}

// P1201: the variable of an OFix is that OFix again, wherever it is met: a step each time.
func TestFixVariables(t *testing.T) {
	down := func(x api.Tm) api.Tm { return oIf(v(0), oApp(v(1), minus(v(0), i(1))), x) }
	runs(t, oApp(oFix(f(), oLam(whole(), down(i(5)))), i(10)), "5", 21)
	// the variable by itself, in a pair, handed to a function, named and not used, used twice by another name
	made := oApp(oFix(tFun(whole(), f()), oLam(whole(), oIf(v(0), oApp(v(1), i(0)), id()))), i(1))
	runs(t, made, "fn", 3)
	runs(t, oApp(made, i(4)), "4", 4)
	runs(t, oFst(oFix(tPro(whole(), f()), oPair(i(3), oLam(whole(), oFst(v(1)))))), "3", 0)
	runs(t, oApp(oSnd(oFix(tPro(whole(), f()), oPair(i(3), oLam(whole(), oFst(v(1)))))), i(0)), "3", 2)
	runs(t, oApp(oFix(f(), oLam(whole(), oLet(v(1), oIf(v(1), oApp(v(0), minus(v(1), i(1))), i(8))))), i(3)), "8", 8)
	runs(t, oApp(oFix(f(), oLam(whole(), oIf(v(0), oLet(v(1), plus(oApp(v(0), i(0)), oApp(v(0), i(0)))), i(8)))), i(3)), "16", 4)
	runs(t, oApp(oFix(f(), oLam(whole(), oIf(v(0), oApp(oLam(f(), i(6)), v(1)), i(8)))), i(3)), "6", 3)
	runs(t, oApp(oFix(f(), oLam(whole(), oIf(v(0), oSnd(oPair(v(1), i(6))), i(8)))), i(3)), "6", 2)
	// a fix in a fix: each variable is that of its own
	inner := oFix(whole(), oIf(v(1), oApp(v(2), minus(v(1), i(1))), i(4)))
	runs(t, oApp(oFix(f(), oLam(whole(), inner)), i(3)), "4", 7)
	inner = oApp(oFix(f(), oLam(whole(), oIf(v(0), oApp(v(1), minus(v(0), i(1))), v(2)))), v(0))
	runs(t, oApp(oFix(f(), oLam(whole(), plus(inner, oIf(v(0), oApp(v(1), minus(v(0), i(1))), i(0))))), i(3)), "6", 1+3*2+4+2*6)
	for _, a := range []api.Tm{whole(), f(), p(), tPro(f(), tFun(p(), p()))} {
		for _, fuel := range []int{0, 1, 77, 65536} {
			fails(t, endless(a), fuel, api.ErrFuel, fuel)
			fails(t, oFix(a, oFix(a, v(0))), fuel, api.ErrFuel, fuel)
			fails(t, oFix(a, oFix(a, v(1))), fuel, api.ErrFuel, fuel)
			fails(t, oFix(a, oLet(v(0), v(0))), fuel, api.ErrFuel, fuel)
			fails(t, oFix(a, oIf(i(1), v(0), v(0))), fuel, api.ErrFuel, fuel)
			fails(t, oFix(a, oFst(oPair(v(0), i(1)))), fuel, api.ErrFuel, fuel)
		}
	}
}

// P1201: what a function's body names outside of it stays what it was where it was made.
func TestWhatFunctionsName(t *testing.T) {
	runs(t, oLet(i(1), oLet(oLam(whole(), v(1)), oLet(i(2), oApp(v(1), i(3))))), "1", 1)
	runs(t, oLet(i(1), oLet(oLam(whole(), oLam(whole(), oPair(v(2), oPair(v(1), v(0))))), oLet(i(2), oApp(oApp(v(1), i(3)), i(4))))), "(1, (3, 4))", 2)
	// the same function of two numbers called with one, twice
	add := oLam(whole(), oLam(whole(), plus(v(1), v(0))))
	runs(t, oLet(add, oLet(oApp(v(0), i(10)), oLet(oApp(v(1), i(20)), oPair(oApp(v(1), i(1)), oApp(v(0), i(1)))))), "(11, 21)", 4)
	twice := oLam(f(), oLam(whole(), oApp(v(1), oApp(v(1), v(0)))))
	runs(t, oApp(oApp(twice, oLam(whole(), times(v(0), i(3)))), i(2)), "18", 4)
	runs(t, oLet(twice, oApp(oApp(v(0), oApp(v(0), oLam(whole(), plus(v(0), i(1))))), i(0))), "4", 1+1+1+2*3)
	both := oLam(f(), oLam(f(), oLam(whole(), oApp(v(1), oApp(v(2), v(0))))))
	runs(t, oApp(oApp(oApp(both, oLam(whole(), plus(v(0), i(1)))), oLam(whole(), times(v(0), i(10)))), i(4)), "50", 5)
	// functions that each turn of a fix makes keep that turn's number
	chain := oFix(tFun(whole(), f()), oLam(whole(), oIf(v(0), oLet(oApp(v(1), minus(v(0), i(1))), oLam(whole(), plus(times(oApp(v(1), v(0)), i(10)), v(2)))), id())))
	runs(t, oApp(oApp(chain, i(4)), i(7)), "71234", 1+2*4+1+4)
	// a function out of a pair out of a function, after what it names is gone
	runs(t, oApp(oSnd(oApp(oLam(whole(), oLet(i(8), oPair(v(1), oLam(whole(), plus(v(0), plus(v(1), v(2))))))), i(100))), i(3000)), "3108", 2)
}

// P1201: a value that stands in many places.
func TestSharedValues(t *testing.T) {
	x := i(1)
	want := "1"
	for n := range 11 {
		runs(t, x, want, 0)
		runs(t, oLet(x, v(0)), want, 0)
		x = oLet(x, oPair(v(0), v(0)))
		want = "(" + want + ", " + want + ")"
		if n > 6 {
			continue
		}
		runs(t, oApp(oLam(whole(), x), i(5)), want, 1)
	}
}
