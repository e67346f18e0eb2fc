package norm

import (
	"testing"

	"thyrsus/api"
	"thyrsus/term"
)

func of(op int, kids ...api.Tm) api.Tm { return api.Tm{Op: op, Kids: kids} }

func numbered(op, n int, kids ...api.Tm) api.Tm { return api.Tm{Op: op, N: n, Kids: kids} }

func v(n int) api.Tm { return numbered(api.Var, n) }

func u(n int) api.Tm { return numbered(api.U, n) }

func i(n int) api.Tm { return numbered(api.OInt, n) }

func nat() api.Tm { return of(api.Nat) }

func zero() api.Tm { return of(api.Zero) }

// sucs is x in so many Sucs.
func sucs(n int, x api.Tm) api.Tm {
	for range n {
		x = of(api.Suc, x)
	}
	return x
}

func num(n int) api.Tm { return sucs(n, zero()) }

func lam(a, b api.Tm) api.Tm { return of(api.Lam, a, b) }

func app(f api.Tm, l ...api.Tm) api.Tm {
	for _, a := range l {
		f = of(api.App, f, a)
	}
	return f
}

func pairOf(s, a, b api.Tm) api.Tm { return of(api.Pair, s, a, b) }

func rec(p, z, s, n api.Tm) api.Tm { return of(api.Rec, p, z, s, n) }

// add is the sum of two numbers: as many steps as the second one has, and one more.
func add(m, n api.Tm) api.Tm { return rec(nat(), m, of(api.Suc, v(0)), n) }

// plus is that of two numbers of object code.
func plus(a, b api.Tm) api.Tm { return numbered(api.OPrim, api.PAdd, a, b) }

func quo(t api.Tm) api.Tm { return of(api.Quo, t) }

func spl(t api.Tm) api.Tm { return of(api.Spl, t) }

// lifted is the type of quotations of numbers.
func lifted() api.Tm { return of(api.Lift, of(api.TInt)) }

// kidsByOp is how many kids each Op has.
func kidsByOp() map[int]int {
	return map[int]int{
		api.Var: 0, api.U: 0, api.Nat: 0, api.Zero: 0, api.Ty: 0, api.TInt: 0, api.OInt: 0,
		api.Fst: 1, api.Snd: 1, api.Suc: 1, api.Lift: 1, api.Quo: 1, api.OFst: 1, api.OSnd: 1, api.Spl: 1,
		api.Pi: 2, api.Lam: 2, api.App: 2, api.Sig: 2, api.TFun: 2, api.TPro: 2, api.OLam: 2, api.OApp: 2,
		api.OPair: 2, api.OPrim: 2, api.OLet: 2, api.OFix: 2,
		api.Pair: 3, api.OIf: 3,
		api.Rec: 4,
	}
}

// becomes checks what a term's normal form is, and that it is its own one (P503).
func becomes(t *testing.T, x, want api.Tm) {
	t.Helper()
	got, e := Normal(x)
	if e != api.OK || term.Text(got) != term.Text(want) {
		t.Errorf("%s: %s, %v, not %s", short(x), short(got), e, short(want))
		return
	}
	if again, e := Normal(got); e != api.OK || !term.Same(again, got) {
		t.Errorf("%s: once more: %s, %v", short(got), short(again), e)
	}
}

// refused checks an error, with nothing beside it.
func refused(t *testing.T, x api.Tm, want api.Errno) {
	t.Helper()
	got, e := Normal(x)
	if e != want || got.Op != 0 || got.N != 0 || got.Kids != nil {
		t.Errorf("%s: %s, %v, not %v", short(x), short(got), e, want)
	}
}

// short is a term's text, or the beginning of it.
func short(x api.Tm) string {
	s := term.Text(x)
	if len(s) > 300 {
		s = s[:300] + " .."
	}
	return s
}

// die throws, the same each time.
type die struct{ n uint64 }

func (d *die) next() uint64 {
	d.n ^= d.n << 13
	d.n ^= d.n >> 7
	d.n ^= d.n << 17
	return d.n
}

func (d *die) of(k int) int { return int(d.next() % uint64(k)) }
