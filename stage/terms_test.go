package stage

import (
	"strings"
	"testing"

	"thyrsus/api"
	"thyrsus/kernel"
	"thyrsus/term"
)

func of(op int, kids ...api.Tm) api.Tm { return api.Tm{Op: op, Kids: kids} }

func numbered(op, n int, kids ...api.Tm) api.Tm { return api.Tm{Op: op, N: n, Kids: kids} }

func v(n int) api.Tm { return numbered(api.Var, n) }

func u(n int) api.Tm { return numbered(api.U, n) }

func i(n int) api.Tm { return numbered(api.OInt, n) }

func nat() api.Tm { return of(api.Nat) }

func zero() api.Tm { return of(api.Zero) }

func ty() api.Tm { return of(api.Ty) }

func whole() api.Tm { return of(api.TInt) }

func suc(x api.Tm) api.Tm { return of(api.Suc, x) }

func num(n int) api.Tm {
	x := zero()
	for range n {
		x = suc(x)
	}
	return x
}

func lam(a, b api.Tm) api.Tm { return of(api.Lam, a, b) }

func app(f api.Tm, l ...api.Tm) api.Tm {
	for _, a := range l {
		f = of(api.App, f, a)
	}
	return f
}

func pi(a, b api.Tm) api.Tm { return of(api.Pi, a, b) }

func sig(a, b api.Tm) api.Tm { return of(api.Sig, a, b) }

func pairOf(s, a, b api.Tm) api.Tm { return of(api.Pair, s, a, b) }

func fst(p api.Tm) api.Tm { return of(api.Fst, p) }

func snd(p api.Tm) api.Tm { return of(api.Snd, p) }

func rec(p, z, s, n api.Tm) api.Tm { return of(api.Rec, p, z, s, n) }

func lift(a api.Tm) api.Tm { return of(api.Lift, a) }

func quo(t api.Tm) api.Tm { return of(api.Quo, t) }

func spl(t api.Tm) api.Tm { return of(api.Spl, t) }

func tFun(a, b api.Tm) api.Tm { return of(api.TFun, a, b) }

func tPro(a, b api.Tm) api.Tm { return of(api.TPro, a, b) }

func oLam(a, b api.Tm) api.Tm { return of(api.OLam, a, b) }

func oApp(f, x api.Tm) api.Tm { return of(api.OApp, f, x) }

func oPair(x, y api.Tm) api.Tm { return of(api.OPair, x, y) }

func oFst(p api.Tm) api.Tm { return of(api.OFst, p) }

func oSnd(p api.Tm) api.Tm { return of(api.OSnd, p) }

func oIf(c, x, y api.Tm) api.Tm { return of(api.OIf, c, x, y) }

func oLet(t, b api.Tm) api.Tm { return of(api.OLet, t, b) }

func oFix(a, b api.Tm) api.Tm { return of(api.OFix, a, b) }

func prim(p int, a, b api.Tm) api.Tm { return numbered(api.OPrim, p, a, b) }

func plus(a, b api.Tm) api.Tm { return prim(api.PAdd, a, b) }

func times(a, b api.Tm) api.Tm { return prim(api.PMul, a, b) }

// lifted is the type of codes of numbers; write is a function that makes one of another one, v0.
func lifted() api.Tm { return lift(whole()) }

func write(b api.Tm) api.Tm { return lam(lifted(), b) }

// add is the sum of two numbers: as many steps as the second one has, and one more.
func add(m, n api.Tm) api.Tm { return rec(nat(), m, suc(v(0)), n) }

// same is x, written otherwise: a function of the type a called with it.
func same(a, x api.Tm) api.Tm { return app(lam(a, v(0)), x) }

// skipped is a term below one variable more, that it does not name.
func skipped(x api.Tm) api.Tm { return term.Shift(x, 1, 0) }

// stages checks what Stage tells of a term that has a type at stage 0 among no
// variables, as its text, and that it is Plain and has the type (P1002).
func stages(t *testing.T, x api.Tm, want string) {
	t.Helper()
	a, e := kernel.Infer(nil, 0, x)
	if e != api.OK {
		t.Fatalf("%s: no type: %v", short(x), e)
	}
	y, e := Stage(x)
	if got := term.Text(y); e != api.OK || got != want {
		t.Errorf("%s: %s, %v, not %s", short(x), cut(got), e, cut(want))
		return
	}
	isCode(t, y, a)
}

// isCode checks that a term is Plain, and has a type that is.
func isCode(t *testing.T, y, a api.Tm) {
	t.Helper()
	if !Plain(y) {
		t.Errorf("%s: not plain", short(y))
	}
	if b, e := kernel.Infer(nil, 0, y); e != api.OK || !term.Same(a, b) {
		t.Errorf("%s: %s, %v, not %s", short(y), short(b), e, short(a))
	}
	if l := metas(a); len(l) > 0 {
		t.Errorf("%s: meta in it: %v", short(a), l)
	}
}

// metas are the heads in a term's text that are none of plain object code: a
// second telling of what Plain asks.
func metas(x api.Tm) []string {
	var l []string
	for _, s := range strings.Fields(strings.NewReplacer("(", " ", ")", " ").Replace(term.Text(x))) {
		switch s, _, _ := strings.Cut(s, "/"); {
		case s[0] == 'v', s[0] == 'i':
		case strings.Contains(" 15 16 17 20 21 22 23 24 26 27 28 29 ", " "+s+" "):
		default:
			l = append(l, s)
		}
	}
	return l
}

// refused checks an error of Stage, with an empty term beside it.
func refused(t *testing.T, x api.Tm, want api.Errno) {
	t.Helper()
	if y, e := Stage(x); e != want || !empty(y) {
		t.Errorf("%s: %s, %v, not %v", short(x), short(y), e, want)
	}
}

// answers checks what Stage tells of a term that may have no type.
func answers(t *testing.T, x, want api.Tm) {
	t.Helper()
	if y, e := Stage(x); e != api.OK || !term.Same(y, want) {
		t.Errorf("%s: %s, %v, not %s", short(x), short(y), e, short(want))
	}
}

func empty(x api.Tm) bool { return x.Op == 0 && x.N == 0 && len(x.Kids) == 0 }

// heavy tells whether an error is one of what is not light.
func heavy(e api.Errno) bool { return e == api.ErrFuel || e == api.ErrDeep }

// short is a term's text, or the beginning of it.
func short(x api.Tm) string { return cut(term.Text(x)) }

func cut(s string) string {
	if len(s) > 300 {
		s = s[:300] + " .."
	}
	return s
}

// die throws, the same each time.
type die struct{ n uint64 }

func (d *die) next() uint64 {
	d.n ^= d.n << 13
	d.n ^= d.n >> 7
	d.n ^= d.n << 17
	return d.n
}

func (d *die) of(k int) int { return int(d.next() % uint64(k)) }

// kidsByOp is how many kids each Op has.
func kidsByOp() map[int]int {
	return map[int]int{
		api.Var: 0, api.U: 0, api.Nat: 0, api.Zero: 0, api.Ty: 0, api.TInt: 0, api.OInt: 0,
		api.Fst: 1, api.Snd: 1, api.Suc: 1, api.Lift: 1, api.Quo: 1, api.OFst: 1, api.OSnd: 1, api.Spl: 1,
		api.Pi: 2, api.Lam: 2, api.App: 2, api.Sig: 2, api.TFun: 2, api.TPro: 2, api.OLam: 2, api.OApp: 2,
		api.OPair: 2, api.OPrim: 2, api.OLet: 2, api.OFix: 2,
		api.Pair: 3, api.OIf: 3,
		api.Rec: 4,
	}
}

// node is one of an Op, all its kids being x.
func node(op int, x api.Tm) api.Tm {
	out := of(op)
	for range kidsByOp()[op] {
		out.Kids = append(out.Kids, x)
	}
	return out
}

// replaced is x with another kid.
func replaced(x api.Tm, kid int, y api.Tm) api.Tm {
	x.Kids = append([]api.Tm{}, x.Kids...)
	x.Kids[kid] = y
	return x
}
