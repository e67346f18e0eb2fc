package elab

import (
	"strings"
	"testing"

	"thyrsus/api"
	"thyrsus/forms"
	"thyrsus/kernel"
	"thyrsus/term"
)

func of(op int, kids ...api.Tm) api.Tm { return api.Tm{Op: op, Kids: kids} }

func numbered(op, n int, kids ...api.Tm) api.Tm { return api.Tm{Op: op, N: n, Kids: kids} }

func v(n int) api.Tm { return numbered(api.Var, n) }

func u(n int) api.Tm { return numbered(api.U, n) }

func i(n int) api.Tm { return numbered(api.OInt, n) }

func nat() api.Tm { return of(api.Nat) }

func zero() api.Tm { return of(api.Zero) }

func ty() api.Tm { return of(api.Ty) }

func whole() api.Tm { return of(api.TInt) }

// num is so many Sucs of Zero.
func num(n int) api.Tm {
	x := zero()
	for range n {
		x = of(api.Suc, x)
	}
	return x
}

func lam(a, b api.Tm) api.Tm { return of(api.Lam, a, b) }

func app(f api.Tm, l ...api.Tm) api.Tm {
	for _, a := range l {
		f = of(api.App, f, a)
	}
	return f
}

func pi(a, b api.Tm) api.Tm { return of(api.Pi, a, b) }

func sig(a, b api.Tm) api.Tm { return of(api.Sig, a, b) }

func pairOf(s, a, b api.Tm) api.Tm { return of(api.Pair, s, a, b) }

func rec(p, z, s, n api.Tm) api.Tm { return of(api.Rec, p, z, s, n) }

func lifted(a api.Tm) api.Tm { return of(api.Lift, a) }

func quo(t api.Tm) api.Tm { return of(api.Quo, t) }

func spl(t api.Tm) api.Tm { return of(api.Spl, t) }

func tFun(a, b api.Tm) api.Tm { return of(api.TFun, a, b) }

func tPro(a, b api.Tm) api.Tm { return of(api.TPro, a, b) }

func oLam(a, b api.Tm) api.Tm { return of(api.OLam, a, b) }

// add is the sum of two numbers: as many steps as the second one has, and one more.
func add(m, n api.Tm) api.Tm { return rec(nat(), m, of(api.Suc, v(0)), n) }

// with is an Env with one variable more.
func (e Env) with(name string, stage int, a api.Tm) Env {
	e.Names = append(append([]string{}, e.Names...), name)
	e.G = append(append([]api.Var1{}, e.G...), api.Var1{Stage: stage, T: a})
	return e
}

// def is an Env with one definition more.
func (e Env) def(name string, stage int, t, a api.Tm) Env {
	e.Defs = append(append([]Known{}, e.Defs...), Known{name, stage, t, a})
	return e
}

// room is an Env of all kinds of variables, and of definitions. Below all of them they are:
//
//	v9 n: Nat, v8 x: TInt (stage 0), v7 F: Pi Nat U0, v6 q: Lift TInt, v5 t: Ty, v4 o: t (stage 0),
//	v3 p: Sig Nat (F v0), v2 f: Pi Nat (F v0), v1 G: Pi (Lift TInt) Ty, v0 c: TPro TInt (TFun TInt TInt) (stage 0)
func room() Env {
	g := Env{}.with("n", 1, nat()).with("x", 0, whole()).with("F", 1, pi(nat(), u(0))).with("q", 1, lifted(whole())).with("t", 1, ty()).
		with("o", 0, v(0)).with("p", 1, sig(nat(), app(v(4), v(0)))).with("f", 1, pi(nat(), app(v(5), v(0)))).
		with("G", 1, pi(lifted(whole()), ty())).with("c", 0, tPro(whole(), tFun(whole(), whole())))
	return g.def("two", 1, num(2), nat()).def("inc", 0, oLam(whole(), numbered(api.OPrim, api.PAdd, v(0), i(1))), tFun(whole(), whole())).
		def("dup", 1, lam(nat(), add(v(0), v(0))), pi(nat(), nat())).def("T", 1, whole(), ty())
}

// stands checks that an Env may be.
func stands(t *testing.T, e Env) {
	t.Helper()
	if err := kernel.Context(e.G); err != api.OK || len(e.Names) != len(e.G) {
		t.Fatalf("no context: %v, %d names", err, len(e.Names))
	}
	for _, d := range e.Defs {
		if a, err := kernel.Infer(nil, d.Stage, d.T); err != api.OK || !term.Same(a, d.A) {
			t.Fatalf("%s: %v, of %s", d.Name, err, short(a))
		}
	}
}

// read is a text's one form.
func read(t testing.TB, s string) api.Form {
	t.Helper()
	l, at, e := forms.Parse(s)
	if e != api.OK || len(l) != 1 {
		t.Fatalf("%s: %d forms, %v at %d", s, len(l), e, at)
	}
	return l[0]
}

// infers checks what Infer tells of a form; that it is so for the small checker, too, and says what the form says.
func infers(t *testing.T, e Env, s, want string, stage int, is string) {
	t.Helper()
	f := read(t, s)
	x, at, a, err := Infer(e, f)
	if got, gotIs := term.Text(x), term.Text(a); err != api.OK || got != want || at != stage || gotIs != is {
		t.Errorf("%s: %s, %d, %s, %v, not %s, %d, %s", s, cut(got), at, cut(gotIs), err, cut(want), stage, cut(is))
		return
	}
	sound(t, e, f, s, at, x, a)
}

// refused checks an error of Infer, with zero values beside it.
func refused(t *testing.T, e Env, s string, want api.Errno) {
	t.Helper()
	x, at, a, err := Infer(e, read(t, s))
	if err != want || !empty(x) || at != 0 || !empty(a) {
		t.Errorf("%s: %s, %d, %s, %v, not %v", s, short(x), at, short(a), err, want)
	}
}

// checks checks what Check tells of a form, likewise.
func checks(t *testing.T, e Env, s string, stage int, a api.Tm, want string) {
	t.Helper()
	f := read(t, s)
	x, err := Check(e, f, stage, a)
	if got := term.Text(x); err != api.OK || got != want {
		t.Errorf("%s: %d, %s: %s, %v, not %s", s, stage, short(a), cut(got), err, cut(want))
		return
	}
	sound(t, e, f, s, stage, x, a)
}

// fails checks an error of Check, with an empty term beside it.
func fails(t *testing.T, e Env, s string, stage int, a api.Tm, want api.Errno) {
	t.Helper()
	x, err := Check(e, read(t, s), stage, a)
	if err != want || !empty(x) {
		t.Errorf("%s: %d, %s: %s, %v, not %v", s, stage, short(a), short(x), err, want)
	}
}

func empty(x api.Tm) bool { return x.Op == 0 && x.N == 0 && len(x.Kids) == 0 }

// short is a term's text, or the beginning of it.
func short(x api.Tm) string { return cut(term.Text(x)) }

func cut(s string) string {
	if len(s) > 300 {
		s = s[:300] + " .."
	}
	return s
}

// nested is a text in so many others: each of them before and behind it.
func nested(n int, before, s, behind string) string {
	return strings.Repeat(before, n) + s + strings.Repeat(behind, n)
}

// die throws, the same each time.
type die struct{ n uint64 }

func (d *die) next() uint64 {
	d.n ^= d.n << 13
	d.n ^= d.n >> 7
	d.n ^= d.n << 17
	return d.n
}

func (d *die) of(k int) int { return int(d.next() % uint64(k)) }
