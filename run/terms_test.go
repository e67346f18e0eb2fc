package run

import (
	"reflect"
	"slices"
	"testing"

	"thyrsus/api"
	"thyrsus/obj"
	"thyrsus/term"
)

func of(op int, kids ...api.Tm) api.Tm { return api.Tm{Op: op, Kids: kids} }

func numbered(op, n int, kids ...api.Tm) api.Tm { return api.Tm{Op: op, N: n, Kids: kids} }

func v(n int) api.Tm { return numbered(api.Var, n) }

func u(n int) api.Tm { return numbered(api.U, n) }

func i(n int) api.Tm { return numbered(api.OInt, n) }

func nat() api.Tm { return of(api.Nat) }

func ty() api.Tm { return of(api.Ty) }

func num(n int) api.Tm {
	x := of(api.Zero)
	for range n {
		x = of(api.Suc, x)
	}
	return x
}

func whole() api.Tm { return of(api.TInt) }

func tFun(a, b api.Tm) api.Tm { return of(api.TFun, a, b) }

func tPro(a, b api.Tm) api.Tm { return of(api.TPro, a, b) }

func lam(a, b api.Tm) api.Tm { return of(api.Lam, a, b) }

func quo(t api.Tm) api.Tm { return of(api.Quo, t) }

func spl(t api.Tm) api.Tm { return of(api.Spl, t) }

func oLam(a, b api.Tm) api.Tm { return of(api.OLam, a, b) }

func oApp(f, x api.Tm) api.Tm { return of(api.OApp, f, x) }

func oPair(x, y api.Tm) api.Tm { return of(api.OPair, x, y) }

func oFst(p api.Tm) api.Tm { return of(api.OFst, p) }

func oSnd(p api.Tm) api.Tm { return of(api.OSnd, p) }

func oIf(c, x, y api.Tm) api.Tm { return of(api.OIf, c, x, y) }

func oLet(t, b api.Tm) api.Tm { return of(api.OLet, t, b) }

func oFix(a, b api.Tm) api.Tm { return of(api.OFix, a, b) }

func prim(p int, a, b api.Tm) api.Tm { return numbered(api.OPrim, p, a, b) }

func plus(a, b api.Tm) api.Tm { return prim(api.PAdd, a, b) }

func minus(a, b api.Tm) api.Tm { return prim(api.PSub, a, b) }

func times(a, b api.Tm) api.Tm { return prim(api.PMul, a, b) }

func by(a, b api.Tm) api.Tm { return prim(api.PDiv, a, b) }

func less(a, b api.Tm) api.Tm { return prim(api.PLes, a, b) }

// f is the type of functions of numbers, p that of pairs of such.
func f() api.Tm { return tFun(whole(), whole()) }

func p() api.Tm { return tPro(whole(), whole()) }

// id is the function of numbers that tells what it is handed: a call of it is a step.
func id() api.Tm { return oLam(whole(), v(0)) }

// after is closed code that tells what x tells, so many steps later.
func after(steps int, x api.Tm) api.Tm {
	for range steps {
		x = oApp(oLam(whole(), x), i(0))
	}
	return x
}

// zero is code of x's type that divides by nought, endless such that takes steps without end.
func zero(x api.Tm) api.Tm { return oIf(by(i(1), i(0)), x, x) }

func endless(a api.Tm) api.Tm { return oFix(a, v(0)) }

// runs checks a value, by its text, and the steps; that it fits its type; and what is told with all that fuel and with less.
func runs(t *testing.T, x api.Tm, want string, steps int) {
	t.Helper()
	for _, fuel := range []int{api.MaxFuel, steps + 1, steps} {
		if fuel <= api.MaxFuel {
			runsWith(t, x, fuel, want, steps)
		}
	}
	for _, fuel := range []int{steps - 1, steps / 2, 0} {
		if 0 <= fuel && fuel < steps {
			fails(t, x, fuel, api.ErrFuel, fuel)
		}
	}
}

// runsWith checks what is told with some fuel.
func runsWith(t *testing.T, x api.Tm, fuel int, want string, steps int) {
	t.Helper()
	y, n, e := Run(x, fuel)
	if got := Text(y); e != api.OK || got != want || n != steps {
		t.Errorf("%s: fuel %d: %s, %d, %v, not %s, %d", short(x), fuel, cut(got), n, e, cut(want), steps)
	}
	if a, _ := obj.Infer(nil, x); !obj.Fits(y, a) {
		t.Errorf("%s: %v is none of %s", short(x), y, short(a))
	}
}

// fails checks an error, and how many steps were taken.
func fails(t *testing.T, x api.Tm, fuel int, want api.Errno, steps int) {
	t.Helper()
	if y, n, e := Run(x, fuel); e != want || n != steps || !reflect.DeepEqual(y, api.Val{}) {
		t.Errorf("%s: fuel %d: %s, %d, %v, not %d, %v", short(x), fuel, cut(Text(y)), n, e, steps, want)
	}
}

// divides checks that code divides by nought after so many steps, with fuel for no more than these too; with less there is none.
func divides(t *testing.T, x api.Tm, steps int) {
	t.Helper()
	for _, fuel := range []int{steps, steps + 1, api.MaxFuel} {
		fails(t, x, fuel, api.ErrZero, steps)
	}
	for fuel := range steps {
		fails(t, x, fuel, api.ErrFuel, fuel)
	}
}

// short is a term's text, or the beginning of it.
func short(x api.Tm) string { return cut(term.Text(x)) }

func cut(s string) string {
	if len(s) > 300 {
		s = s[:300] + " .."
	}
	return s
}

// die throws, the same each time.
type die struct{ n uint64 }

func (d *die) next() uint64 {
	d.n ^= d.n << 13
	d.n ^= d.n >> 7
	d.n ^= d.n << 17
	return d.n
}

func (d *die) of(k int) int { return int(d.next() % uint64(k)) }

// kidsByOp is how many kids each Op has.
func kidsByOp() map[int]int {
	return map[int]int{
		api.Var: 0, api.U: 0, api.Nat: 0, api.Zero: 0, api.Ty: 0, api.TInt: 0, api.OInt: 0,
		api.Fst: 1, api.Snd: 1, api.Suc: 1, api.Lift: 1, api.Quo: 1, api.OFst: 1, api.OSnd: 1, api.Spl: 1,
		api.Pi: 2, api.Lam: 2, api.App: 2, api.Sig: 2, api.TFun: 2, api.TPro: 2, api.OLam: 2, api.OApp: 2,
		api.OPair: 2, api.OPrim: 2, api.OLet: 2, api.OFix: 2,
		api.Pair: 3, api.OIf: 3,
		api.Rec: 4,
	}
}

// inOrder are the Ops in order.
func inOrder() []int {
	var l []int
	for op := range kidsByOp() {
		l = append(l, op)
	}
	slices.Sort(l)
	return l
}

// replaced is x with another kid.
func replaced(x api.Tm, kid int, y api.Tm) api.Tm {
	x.Kids = slices.Clone(x.Kids)
	x.Kids[kid] = y
	return x
}

func vInt(n int) api.Val { return api.Val{Kind: api.VInt, N: n} }

func vPair(parts ...api.Val) api.Val { return api.Val{Kind: api.VPair, L: parts} }

func vFun() api.Val { return api.Val{Kind: api.VFun} }
