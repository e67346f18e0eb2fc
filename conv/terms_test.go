package conv

import (
	"testing"

	"thyrsus/api"
	"thyrsus/term"
)

func of(op int, kids ...api.Tm) api.Tm { return api.Tm{Op: op, Kids: kids} }

func numbered(op, n int, kids ...api.Tm) api.Tm { return api.Tm{Op: op, N: n, Kids: kids} }

func v(n int) api.Tm { return numbered(api.Var, n) }

func u(n int) api.Tm { return numbered(api.U, n) }

func i(n int) api.Tm { return numbered(api.OInt, n) }

func nat() api.Tm { return of(api.Nat) }

func zero() api.Tm { return of(api.Zero) }

// sucs is x in so many Sucs.
func sucs(n int, x api.Tm) api.Tm {
	for range n {
		x = of(api.Suc, x)
	}
	return x
}

func num(n int) api.Tm { return sucs(n, zero()) }

func lam(a, b api.Tm) api.Tm { return of(api.Lam, a, b) }

func app(f api.Tm, l ...api.Tm) api.Tm {
	for _, a := range l {
		f = of(api.App, f, a)
	}
	return f
}

func pi(a, b api.Tm) api.Tm { return of(api.Pi, a, b) }

func sig(a, b api.Tm) api.Tm { return of(api.Sig, a, b) }

func pairOf(s, a, b api.Tm) api.Tm { return of(api.Pair, s, a, b) }

func fst(p api.Tm) api.Tm { return of(api.Fst, p) }

func snd(p api.Tm) api.Tm { return of(api.Snd, p) }

// fn and two are a Lam and a Pair with plain types written in them.
func fn(b api.Tm) api.Tm { return lam(nat(), b) }

func two(a, b api.Tm) api.Tm { return pairOf(sig(nat(), nat()), a, b) }

func rec(p, z, s, n api.Tm) api.Tm { return of(api.Rec, p, z, s, n) }

// add is the sum of two numbers: as many steps as the second one has, and one more.
func add(m, n api.Tm) api.Tm { return rec(nat(), m, of(api.Suc, v(0)), n) }

// plus is that of two numbers of object code.
func plus(a, b api.Tm) api.Tm { return numbered(api.OPrim, api.PAdd, a, b) }

func quo(t api.Tm) api.Tm { return of(api.Quo, t) }

func spl(t api.Tm) api.Tm { return of(api.Spl, t) }

// wide and whole are eta's of a function and of a pair: more than they must be.
func wide(f api.Tm) api.Tm { return fn(app(term.Shift(f, 1, 0), v(0))) }

func whole(p api.Tm) api.Tm { return two(fst(p), snd(p)) }

// kidsByOp is how many kids each Op has.
func kidsByOp() map[int]int {
	return map[int]int{
		api.Var: 0, api.U: 0, api.Nat: 0, api.Zero: 0, api.Ty: 0, api.TInt: 0, api.OInt: 0,
		api.Fst: 1, api.Snd: 1, api.Suc: 1, api.Lift: 1, api.Quo: 1, api.OFst: 1, api.OSnd: 1, api.Spl: 1,
		api.Pi: 2, api.Lam: 2, api.App: 2, api.Sig: 2, api.TFun: 2, api.TPro: 2, api.OLam: 2, api.OApp: 2,
		api.OPair: 2, api.OPrim: 2, api.OLet: 2, api.OFix: 2,
		api.Pair: 3, api.OIf: 3,
		api.Rec: 4,
	}
}

// holding is a node of variables, but for one kid.
func holding(op, n, kid int, x api.Tm) api.Tm {
	out := of(op)
	for k := range n {
		if k == kid {
			out.Kids = append(out.Kids, x)
		} else {
			out.Kids = append(out.Kids, v(4+k))
		}
	}
	return out
}

// replaced is x with another kid.
func replaced(x api.Tm, kid int, y api.Tm) api.Tm {
	x.Kids = append([]api.Tm{}, x.Kids...)
	x.Kids[kid] = y
	return x
}

// asks checks an answer, in both orders.
func asks(t *testing.T, a, b api.Tm, want bool) {
	t.Helper()
	for _, x := range [][2]api.Tm{{a, b}, {b, a}} {
		if is, e := Equal(x[0], x[1]); e != api.OK || is != want {
			t.Errorf("%s, %s: %v, %v, not %v", short(x[0]), short(x[1]), is, e, want)
		}
	}
}

// equal and unlike check that all of these are, each two of them, and each by itself.
func equal(t *testing.T, l ...api.Tm) {
	t.Helper()
	for k := range l {
		for n := range k + 1 {
			asks(t, l[k], l[n], true)
		}
	}
}

func unlike(t *testing.T, l ...api.Tm) {
	t.Helper()
	for k := range l {
		for n := range k {
			asks(t, l[k], l[n], false)
		}
		asks(t, l[k], l[k], true)
	}
}

// refused checks an error, with a false beside it.
func refused(t *testing.T, a, b api.Tm, want api.Errno) {
	t.Helper()
	if is, e := Equal(a, b); is || e != want {
		t.Errorf("%s, %s: %v, %v, not %v", short(a), short(b), is, e, want)
	}
}

// short is a term's text, or the beginning of it.
func short(x api.Tm) string {
	s := term.Text(x)
	if len(s) > 300 {
		s = s[:300] + " .."
	}
	return s
}

// die throws, the same each time.
type die struct{ n uint64 }

func (d *die) next() uint64 {
	d.n ^= d.n << 13
	d.n ^= d.n >> 7
	d.n ^= d.n << 17
	return d.n
}

func (d *die) of(k int) int { return int(d.next() % uint64(k)) }
