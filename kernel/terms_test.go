package kernel

import (
	"testing"

	"thyrsus/api"
	"thyrsus/conv"
	"thyrsus/norm"
	"thyrsus/term"
)

func of(op int, kids ...api.Tm) api.Tm { return api.Tm{Op: op, Kids: kids} }

func numbered(op, n int, kids ...api.Tm) api.Tm { return api.Tm{Op: op, N: n, Kids: kids} }

func v(n int) api.Tm { return numbered(api.Var, n) }

func u(n int) api.Tm { return numbered(api.U, n) }

func i(n int) api.Tm { return numbered(api.OInt, n) }

func nat() api.Tm { return of(api.Nat) }

func zero() api.Tm { return of(api.Zero) }

func ty() api.Tm { return of(api.Ty) }

func whole() api.Tm { return of(api.TInt) }

// sucs is x in so many Sucs.
func sucs(n int, x api.Tm) api.Tm {
	for range n {
		x = of(api.Suc, x)
	}
	return x
}

func num(n int) api.Tm { return sucs(n, zero()) }

func lam(a, b api.Tm) api.Tm { return of(api.Lam, a, b) }

func app(f api.Tm, l ...api.Tm) api.Tm {
	for _, a := range l {
		f = of(api.App, f, a)
	}
	return f
}

func pi(a, b api.Tm) api.Tm { return of(api.Pi, a, b) }

func sig(a, b api.Tm) api.Tm { return of(api.Sig, a, b) }

func pairOf(s, a, b api.Tm) api.Tm { return of(api.Pair, s, a, b) }

func fst(p api.Tm) api.Tm { return of(api.Fst, p) }

func snd(p api.Tm) api.Tm { return of(api.Snd, p) }

func rec(p, z, s, n api.Tm) api.Tm { return of(api.Rec, p, z, s, n) }

func lift(a api.Tm) api.Tm { return of(api.Lift, a) }

func quo(t api.Tm) api.Tm { return of(api.Quo, t) }

func spl(t api.Tm) api.Tm { return of(api.Spl, t) }

func tFun(a, b api.Tm) api.Tm { return of(api.TFun, a, b) }

func tPro(a, b api.Tm) api.Tm { return of(api.TPro, a, b) }

func oLam(a, b api.Tm) api.Tm { return of(api.OLam, a, b) }

func oApp(f, x api.Tm) api.Tm { return of(api.OApp, f, x) }

func oPair(x, y api.Tm) api.Tm { return of(api.OPair, x, y) }

func oIf(c, x, y api.Tm) api.Tm { return of(api.OIf, c, x, y) }

func oLet(t, b api.Tm) api.Tm { return of(api.OLet, t, b) }

func oFix(a, b api.Tm) api.Tm { return of(api.OFix, a, b) }

func plus(a, b api.Tm) api.Tm { return numbered(api.OPrim, api.PAdd, a, b) }

// add is the sum of two numbers: as many steps as the second one has, and one more.
func add(m, n api.Tm) api.Tm { return rec(nat(), m, of(api.Suc, v(0)), n) }

// same is x, written otherwise: a function of the type a called with it.
func same(a, x api.Tm) api.Tm { return app(lam(a, v(0)), x) }

// ctx is a context: variables, each a stage and a type, the last one nearest.
type ctx []api.Var1

func (g ctx) with(stage int, a api.Tm) ctx {
	return append(append(ctx{}, g...), api.Var1{Stage: stage, T: a})
}

// room is a context of all kinds of variables. Below all of them they are:
//
//	v7 n: Nat, v6 x: TInt (stage 0), v5 F: Pi Nat U0, v4 q: Lift TInt, v3 t: Ty,
//	v2 o: t (stage 0), v1 p: Sig Nat (F v0), v0 f: Pi Nat (F v0)
func room() ctx {
	return ctx{}.with(1, nat()).with(0, whole()).with(1, pi(nat(), u(0))).with(1, lift(whole())).with(1, ty()).
		with(0, v(0)).with(1, sig(nat(), app(v(4), v(0)))).with(1, pi(nat(), app(v(5), v(0))))
}

// infers checks a term's type, as its text.
func infers(t *testing.T, g ctx, stage int, x api.Tm, want string) {
	t.Helper()
	a, e := Infer(g, stage, x)
	if got := term.Text(a); e != api.OK || got != want {
		t.Errorf("%s: %s, %v, not %s", short(x), cut(got), e, cut(want))
	}
}

// refused checks an error of Infer, with an empty term beside it; Check must tell the same one, whatever type is asked for.
func refused(t *testing.T, g ctx, stage int, x api.Tm, want api.Errno) {
	t.Helper()
	a, e := Infer(g, stage, x)
	if e != want || a.Op != 0 || a.N != 0 || len(a.Kids) > 0 {
		t.Errorf("%s: %s, %v, not %v", short(x), short(a), e, want)
	}
	for _, a := range []api.Tm{nat(), whole(), u(1), deepType(), v(2000)} {
		if e := Check(g, stage, x, a); e != want {
			t.Errorf("%s: Check: %s: %v, not %v", short(x), short(a), e, want)
		}
	}
}

// checks checks what Check tells.
func checks(t *testing.T, g ctx, stage int, x, a api.Tm, want api.Errno) {
	t.Helper()
	if e := Check(g, stage, x, a); e != want {
		t.Errorf("%s, %s: %v, not %v", short(x), short(a), e, want)
	}
}

// stands checks that a context may be.
func stands(t *testing.T, g ctx) {
	t.Helper()
	if e := Context(g); e != api.OK {
		t.Fatalf("no context: %v", e)
	}
}

func normal(t *testing.T, x api.Tm) api.Tm {
	t.Helper()
	n, e := norm.Normal(x)
	if e != api.OK {
		t.Fatalf("%s: %v", short(x), e)
	}
	return n
}

// alike tells whether two types are equal.
func alike(a, b api.Tm) bool {
	is, e := conv.Equal(a, b)
	return is && e == api.OK
}

// deepType is a type (of no variables) whose normal form is too deep.
func deepType() api.Tm { return arrows(num(60), num(60)) }

// arrows is a type of functions of so many numbers, of Nat.
func arrows(m, n api.Tm) api.Tm { return rec(u(0), nat(), pi(nat(), v(1)), add(m, n)) }

// short is a term's text, or the beginning of it.
func short(x api.Tm) string { return cut(term.Text(x)) }

func cut(s string) string {
	if len(s) > 300 {
		s = s[:300] + " .."
	}
	return s
}

// die throws, the same each time.
type die struct{ n uint64 }

func (d *die) next() uint64 {
	d.n ^= d.n << 13
	d.n ^= d.n >> 7
	d.n ^= d.n << 17
	return d.n
}

func (d *die) of(k int) int { return int(d.next() % uint64(k)) }

// skipped is a term below one variable more, that it does not name.
func skipped(x api.Tm) api.Tm { return term.Shift(x, 1, 0) }

// kidsByOp is how many kids each Op has.
func kidsByOp() map[int]int {
	return map[int]int{
		api.Var: 0, api.U: 0, api.Nat: 0, api.Zero: 0, api.Ty: 0, api.TInt: 0, api.OInt: 0,
		api.Fst: 1, api.Snd: 1, api.Suc: 1, api.Lift: 1, api.Quo: 1, api.OFst: 1, api.OSnd: 1, api.Spl: 1,
		api.Pi: 2, api.Lam: 2, api.App: 2, api.Sig: 2, api.TFun: 2, api.TPro: 2, api.OLam: 2, api.OApp: 2,
		api.OPair: 2, api.OPrim: 2, api.OLet: 2, api.OFix: 2,
		api.Pair: 3, api.OIf: 3,
		api.Rec: 4,
	}
}
