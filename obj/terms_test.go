package obj

import (
	"reflect"
	"slices"
	"testing"

	"thyrsus/api"
	"thyrsus/term"
)

func of(op int, kids ...api.Tm) api.Tm { return api.Tm{Op: op, Kids: kids} }

func numbered(op, n int, kids ...api.Tm) api.Tm { return api.Tm{Op: op, N: n, Kids: kids} }

func v(n int) api.Tm { return numbered(api.Var, n) }

func u(n int) api.Tm { return numbered(api.U, n) }

func i(n int) api.Tm { return numbered(api.OInt, n) }

func nat() api.Tm { return of(api.Nat) }

func ty() api.Tm { return of(api.Ty) }

func num(n int) api.Tm {
	x := of(api.Zero)
	for range n {
		x = of(api.Suc, x)
	}
	return x
}

func whole() api.Tm { return of(api.TInt) }

func tFun(a, b api.Tm) api.Tm { return of(api.TFun, a, b) }

func tPro(a, b api.Tm) api.Tm { return of(api.TPro, a, b) }

func lift(a api.Tm) api.Tm { return of(api.Lift, a) }

func lam(a, b api.Tm) api.Tm { return of(api.Lam, a, b) }

func app(f, a api.Tm) api.Tm { return of(api.App, f, a) }

func quo(t api.Tm) api.Tm { return of(api.Quo, t) }

func spl(t api.Tm) api.Tm { return of(api.Spl, t) }

func oLam(a, b api.Tm) api.Tm { return of(api.OLam, a, b) }

func oApp(f, x api.Tm) api.Tm { return of(api.OApp, f, x) }

func oPair(x, y api.Tm) api.Tm { return of(api.OPair, x, y) }

func oFst(p api.Tm) api.Tm { return of(api.OFst, p) }

func oSnd(p api.Tm) api.Tm { return of(api.OSnd, p) }

func oIf(c, x, y api.Tm) api.Tm { return of(api.OIf, c, x, y) }

func oLet(t, b api.Tm) api.Tm { return of(api.OLet, t, b) }

func oFix(a, b api.Tm) api.Tm { return of(api.OFix, a, b) }

func prim(p int, a, b api.Tm) api.Tm { return numbered(api.OPrim, p, a, b) }

func plus(a, b api.Tm) api.Tm { return prim(api.PAdd, a, b) }

// f is the type of functions of numbers, p that of pairs of such.
func f() api.Tm { return tFun(whole(), whole()) }

func p() api.Tm { return tPro(whole(), whole()) }

// infers checks the type that Infer tells, as its text, and that it is one.
func infers(t *testing.T, g []api.Tm, x api.Tm, want string) {
	t.Helper()
	a, e := Infer(g, x)
	if got := term.Text(a); e != api.OK || got != want || !Type(a) {
		t.Errorf("%s: %s, %v, not %s", short(x), cut(got), e, cut(want))
	}
}

// refused checks an error of Infer, with an empty term beside it.
func refused(t *testing.T, g []api.Tm, x api.Tm, want api.Errno) {
	t.Helper()
	if a, e := Infer(g, x); e != want || !empty(a) {
		t.Errorf("%s: %s, %v, not %v", short(x), short(a), e, want)
	}
}

func empty(x api.Tm) bool { return reflect.DeepEqual(x, api.Tm{}) }

// short is a term's text, or the beginning of it.
func short(x api.Tm) string { return cut(term.Text(x)) }

func cut(s string) string {
	if len(s) > 300 {
		s = s[:300] + " .."
	}
	return s
}

// die throws, the same each time.
type die struct{ n uint64 }

func (d *die) next() uint64 {
	d.n ^= d.n << 13
	d.n ^= d.n >> 7
	d.n ^= d.n << 17
	return d.n
}

func (d *die) of(k int) int { return int(d.next() % uint64(k)) }

// kidsByOp is how many kids each Op has.
func kidsByOp() map[int]int {
	return map[int]int{
		api.Var: 0, api.U: 0, api.Nat: 0, api.Zero: 0, api.Ty: 0, api.TInt: 0, api.OInt: 0,
		api.Fst: 1, api.Snd: 1, api.Suc: 1, api.Lift: 1, api.Quo: 1, api.OFst: 1, api.OSnd: 1, api.Spl: 1,
		api.Pi: 2, api.Lam: 2, api.App: 2, api.Sig: 2, api.TFun: 2, api.TPro: 2, api.OLam: 2, api.OApp: 2,
		api.OPair: 2, api.OPrim: 2, api.OLet: 2, api.OFix: 2,
		api.Pair: 3, api.OIf: 3,
		api.Rec: 4,
	}
}

// inOrder are the Ops in order.
func inOrder() []int {
	var l []int
	for op := range kidsByOp() {
		l = append(l, op)
	}
	slices.Sort(l)
	return l
}

// filled is a node of an Op, all its kids being x.
func filled(op int, x api.Tm) api.Tm {
	out := of(op)
	for range kidsByOp()[op] {
		out.Kids = append(out.Kids, x)
	}
	return out
}

// replaced is x with another kid.
func replaced(x api.Tm, kid int, y api.Tm) api.Tm {
	x.Kids = slices.Clone(x.Kids)
	x.Kids[kid] = y
	return x
}

// tys is a type of so many nodes (an odd count), not deep.
func tys(n int) api.Tm {
	if n == 1 {
		return whole()
	}
	a := (n-1)/4*2 + 1
	return of([]int{api.TFun, api.TPro}[n/2%2], tys(a), tys(n-1-a))
}

// chain is a type that is so deep.
func chain(n int) api.Tm {
	a := whole()
	for k := range n - 1 {
		a = []api.Tm{tFun(whole(), a), tPro(a, whole())}[k%2]
	}
	return a
}

// anyType is some type.
func (d *die) anyType(deep int) api.Tm {
	if deep == 0 || d.of(2) == 0 {
		return whole()
	}
	return of([]int{api.TFun, api.TPro}[d.of(2)], d.anyType(deep-1), d.anyType(deep-1))
}
