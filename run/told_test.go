package run

import (
	"math/big"
	"strconv"
	"testing"

	"thyrsus/api"
	"thyrsus/obj"
	"thyrsus/term"
)

// teller is a second telling of Run: it puts values, that are closed terms, in the place of variables. In the place of a fix's own variable it puts that fix with met as its N.
type teller struct{ fuel, steps int }

const met = 1

func (r *teller) step() api.Errno {
	if r.steps == r.fuel {
		return api.ErrFuel
	}
	r.steps++
	return api.OK
}

func (r *teller) value(x api.Tm) (api.Tm, api.Errno) {
	switch x.Op {
	case api.OLam, api.OInt:
		return x, api.OK
	case api.OFix:
		if x.N == met {
			if e := r.step(); e != api.OK {
				return api.Tm{}, e
			}
		}
		return r.value(put(x.Kids[1], 0, numbered(api.OFix, met, x.Kids...)))
	}
	l, e := r.values(asked(x))
	if e != api.OK {
		return api.Tm{}, e
	}
	switch x.Op {
	case api.OApp:
		if e := r.step(); e != api.OK {
			return api.Tm{}, e
		}
		return r.value(put(l[0].Kids[1], 0, l[1]))
	case api.OPair:
		return oPair(l[0], l[1]), api.OK
	case api.OFst:
		return l[0].Kids[0], api.OK
	case api.OSnd:
		return l[0].Kids[1], api.OK
	case api.OIf:
		if l[0].N == 0 {
			return r.value(x.Kids[2])
		}
		return r.value(x.Kids[1])
	case api.OLet:
		return r.value(put(x.Kids[1], 0, l[0]))
	}
	return reckon(x.N, l[0].N, l[1].N)
}

func (r *teller) values(l []api.Tm) ([]api.Tm, api.Errno) {
	var out []api.Tm
	for _, x := range l {
		y, e := r.value(x)
		if e != api.OK {
			return nil, e
		}
		out = append(out, y)
	}
	return out, api.OK
}

// asked are the parts that are told ahead of the node.
func asked(x api.Tm) []api.Tm {
	if x.Op == api.OIf || x.Op == api.OLet {
		return x.Kids[:1]
	}
	return x.Kids
}

// put is x with a closed term in the place of the variable n, which is the outermost one.
func put(x api.Tm, n int, y api.Tm) api.Tm {
	if x.Op == api.Var && x.N == n {
		return y
	}
	out := numbered(x.Op, x.N)
	for k, kid := range x.Kids {
		out.Kids = append(out.Kids, put(kid, n+term.Binders(x.Op, k), y))
	}
	return out
}

// reckon tells what is made of two numbers, by great ones.
func reckon(which, a, b int) (api.Tm, api.Errno) {
	x, y, z := big.NewInt(int64(a)), big.NewInt(int64(b)), new(big.Int)
	switch which {
	case api.PAdd:
		z.Add(x, y)
	case api.PSub:
		z.Sub(x, y)
	case api.PMul:
		z.Mul(x, y)
	case api.PDiv:
		if b == 0 {
			return api.Tm{}, api.ErrZero
		}
		z.Quo(x, y)
	case api.PLes:
		if x.Cmp(y) < 0 {
			z.SetInt64(1)
		}
	}
	z.And(z, new(big.Int).SetUint64(1<<64-1))
	return i(int(z.Uint64())), api.OK
}

// textOf is the text of a value that is a term.
func textOf(x api.Tm) string {
	switch x.Op {
	case api.OInt:
		return strconv.Itoa(x.N)
	case api.OPair:
		return "(" + textOf(x.Kids[0]) + ", " + textOf(x.Kids[1]) + ")"
	}
	return "fn"
}

// agrees checks Run against the second telling, and that a value fits the type; it tells the error, and the steps.
func agrees(t *testing.T, x api.Tm, fuel int) (api.Errno, int) {
	t.Helper()
	a, e := obj.Infer(nil, x)
	if e != api.OK {
		t.Fatalf("%s: %v", short(x), e)
	}
	r := teller{fuel: fuel}
	want, wantE := r.value(x)
	if wantE != api.OK {
		fails(t, x, fuel, wantE, r.steps)
		return wantE, r.steps
	}
	y, n, e := Run(x, fuel)
	if e != api.OK || n != r.steps || Text(y) != textOf(want) || !obj.Fits(y, a) {
		t.Errorf("%s: fuel %d: %s, %d, %v, not %s, %d", short(x), fuel, cut(Text(y)), n, e, cut(textOf(want)), r.steps)
	}
	return wantE, r.steps
}

// P1201, P1203: code of all kinds of types against the second telling, with fuel of all kinds; and what is told with some is told with more.
func TestTyped(t *testing.T) {
	seen := map[api.Errno]int{}
	long := 0
	d := &die{91}
	for seed := range uint64(6000) {
		x, ok := typed(seed + 1)
		if !ok {
			continue
		}
		e, n := agrees(t, x, 100)
		seen[e]++
		if e != api.ErrFuel && n > 3 {
			long++
		}
		for range 3 {
			agrees(t, x, d.of(n+3))
		}
		isTheSameWithMore(t, x, n, e)
	}
	if seen[api.OK] < 2000 || seen[api.ErrZero] < 200 || seen[api.ErrFuel] < 300 || long < 500 {
		t.Errorf("only %v, %d", seen, long)
	}
}

// isTheSameWithMore checks an answer with so many steps against those with more fuel; ErrFuel may become another one.
func isTheSameWithMore(t *testing.T, x api.Tm, steps int, e api.Errno) {
	t.Helper()
	if e == api.ErrFuel {
		return
	}
	want, _, _ := Run(x, steps)
	for _, fuel := range []int{steps + 1, 2*steps + 7, 1000, api.MaxFuel} {
		if y, n, f := Run(x, fuel); n != steps || f != e || Text(y) != Text(want) {
			t.Errorf("%s: fuel %d: %s, %d, %v, not %s, %d, %v", short(x), fuel, Text(y), n, f, Text(want), steps, e)
		}
	}
}

// P1201, P1203: what is told with each fuel, from 0 on, till one suffices.
func TestEachFuel(t *testing.T) {
	for _, x := range []api.Tm{oApp(fact(), i(9)), oApp(fib(), i(8)), oApp(even(), i(7)), oApp(oApp(ack(), i(2)), i(2)), oPair(oApp(fact(), i(3)), by(oApp(fib(), i(4)), oApp(even(), i(3)))), after(20, oPair(id(), i(1)))} {
		e, n := agrees(t, x, 5000)
		if e == api.ErrFuel {
			t.Fatalf("%s: %d", short(x), n)
		}
		for fuel := range n + 5 {
			agrees(t, x, fuel)
		}
	}
}

// P1203: what Run tells fits no other type than its own.
func TestValuesFitTheirType(t *testing.T) {
	d := &die{97}
	seen := 0
	for seed := range uint64(4000) {
		x, ok := typed(seed + 20001)
		if !ok {
			continue
		}
		y, _, e := Run(x, 150)
		if e != api.OK {
			continue
		}
		a, _ := obj.Infer(nil, x)
		for range 5 {
			if b := d.anyType(3); obj.Fits(y, b) != alike(a, b) {
				t.Errorf("%s: %v, of %s", short(x), y, short(b))
			}
		}
		if _, is := obj.Quote(y); is != !hasFun(a) {
			t.Errorf("%s: %v, a term: %v", short(x), y, is)
		}
		seen++
	}
	if seen < 700 {
		t.Errorf("only %d", seen)
	}
}

// alike tells whether two types' values are of one shape.
func alike(a, b api.Tm) bool {
	if a.Op != b.Op {
		return false
	}
	return a.Op != api.TPro || alike(a.Kids[0], b.Kids[0]) && alike(a.Kids[1], b.Kids[1])
}

func hasFun(a api.Tm) bool {
	return a.Op == api.TFun || a.Op == api.TPro && (hasFun(a.Kids[0]) || hasFun(a.Kids[1]))
}

// P1203: the value of what obj.Quote tells is that value again, with no step.
func TestQuotesRun(t *testing.T) {
	seen := 0
	for seed := range uint64(3000) {
		x, ok := typed(seed + 30001)
		if !ok {
			continue
		}
		y, _, _ := Run(x, 150)
		if q, is := obj.Quote(y); is {
			runs(t, q, Text(y), 0)
			seen++
		}
	}
	if seen < 400 {
		t.Errorf("only %d", seen)
	}
}
