package erase

import (
	"testing"

	"thyrsus/api"
	"thyrsus/elab"
	"thyrsus/forms"
)

// agrees checks P903 of a form: what chapter 8 makes of it, where it accepts it, says what the
// form says. It tells how often it did.
func agrees(t *testing.T, e elab.Env, f api.Form, stage int, a api.Tm) int {
	t.Helper()
	var told []api.Tm
	if x, _, _, err := elab.Infer(e, f); err == api.OK {
		told = append(told, x)
	}
	if x, err := elab.Check(e, f, stage, a); err == api.OK {
		told = append(told, x)
	}
	for _, x := range told {
		if y, err := Form(e.Names, f); err != api.OK || !same(Term(x), y) {
			t.Errorf("P903: %s: %s says %s, not %s, %v", cut(forms.Text(f)), short(x), short(Term(x)), short(y), err)
		}
	}
	return len(told)
}

// env is names in scope, of types: each one's stage ahead of it, as term.Text writes it.
func env(t *testing.T, l ...string) elab.Env {
	t.Helper()
	var e elab.Env
	for k := 0; k < len(l); k += 2 {
		e.Names = append(e.Names, l[k])
		e.G = append(e.G, api.Var1{Stage: int(l[k+1][0] - '0'), T: tm(t, l[k+1][2:])})
	}
	return e
}

// typed are forms that chapter 8 accepts in the scope of handMade's names.
func typed() []string {
	power := "(the (-> Nat (-> (lift Int) (lift Int))) (fn k (fn y (rec (m (lift Int)) 1 (m r (mul y r)) k))))"
	twice := "(the (pi (A U0) (-> (-> A A) (-> A A))) (fn A (fn s (fn z (s (s z))))))"
	some := "(the (sig (A U0) (* A (-> A Nat))) (pair (* Nat Nat) (pair (pair 1 2) (fn r (snd r)))))"
	return []string{
		"n", "x", "F", "q", "t", "o", "p", "f", "G", "c", "(f n)", "(f (suc n))", "(fst p)", "(snd p)", "(fst c)", "(snd c)", "((snd c) q)", "(G q)", "(G x)", "(G (quote (add x 1)))", "(fn (z t) z)", "(fn (z (G q)) (pair z o))", "U0", "U1", "Nat", "zero", "Ty", "Int", "41", "-1", "40", "0",
		"(fn (k Nat) (f (suc k)))", "(the (pi (k Nat) (-> (F k) (* (F k) (F k)))) (fn k (fn k (pair k k))))", "(the (sig (k Nat) (F k)) (pair 3 (f 3)))", "(the (sig (k Nat) (F k)) p)", "(the (pi (k Nat) (F k)) f)", "(the (pi (k Nat) (F k)) (fn k (f k)))", "(the (-> (F n) (F n)) (fn n n))",
		"(rec (k (F k)) (f zero) (k h (f (suc k))) 4)", "(rec (k U0) Nat (k h (-> Nat h)) 2)", "(the (rec (k U0) Nat (k h (-> Nat h)) 4) (fn a (fn b (fn c (fn d a)))))", "(rec (k (-> Nat Nat)) (fn a a) (k h (fn a (h k))) n)", "(rec (h Nat) 0 (h h h) 0)",
		power, "(" + power + " 3 q)", "(fn (y Int) (" + power + " 3 y))", "(quote (" + power + " 2 (add x 1)))", twice, "(" + twice + " Nat (fn k (suc k)) 1)", "(" + twice + " (lift Int) (fn k (add k 1)) 5)", some, "(fst " + some + ")", "(fst (snd " + some + "))", "((snd (snd " + some + ")) (fst (snd " + some + ")))",
		"(fix (l (-> Int Int)) (fn y (if (less y 2) 1 (mul y (l (sub y 1))))))", "(let (y (pair x q)) (let (z (fst y)) (add (snd y) z)))", "(let (y o) (pair y y))", "(the (G x) (fix (z (G x)) z))", "(fn (y Int) (splice (the (lift Int) y)))",
		"(pi (A U0) (-> A A))", "(sig (A U0) (* A A))", "(-> U1 U0)", "(* U0 U1)", "(pi (A U1) A)", "(the U1 (-> U0 U0))", "(-> t (* Int (G q)))", "(-> (-> Int t) (* t (-> t Int)))", "(-> Nat (-> (F n) (pi (k Nat) (F k))))", "(* Nat (* Ty (lift (-> t t))))",
		"(quote (quote (splice q)))", "(splice (quote q))", "(the (lift (-> Int Int)) (fn y (add y x)))", "(the (lift (* Int Int)) (pair q x))", "(the (lift Int) (if q q 1))", "(the (* (lift Int) (lift Int)) (pair 1 q))", "(if q c (pair 1 (fn y y)))", "(if x (fn (y Int) y) (fn y q))", "(pair c (pair x q))", "(fst (pair 1 2))",
		"((the (pi (k Nat) (-> (F k) (F k))) (fn k (fn r r))) n (f n))", "(the (-> Nat U0) F)", "(the (-> Nat U0) (fn k (F k)))", "(snd (the (sig (A U1) A) (pair U0 Nat)))", "((the (pi (A U1) (-> A A)) (fn A (fn r r))) U0 Nat)", "(fn (e (pi (A U0) A)) (e Nat))", "(fn (e (lift (-> Int Int))) (quote (e 1)))", "(fn (e (lift (* Int Int))) (quote (add (fst e) (snd e))))",
		"(fn (e (* (lift Int) Nat)) (quote (add (fst e) 1)))", "(suc (suc 38))", "(the Nat 40)", "(the Nat 0)", "(div 1 0)", "(less -4611686018427387904 4611686018427387904)", "(fn (y ((fn (A Ty) (-> A A)) Int)) (y 40))", "(fix (y ((fn (A Ty) (* A A)) Int)) (pair 1 (fst y)))",
	}
}

// scope is what the names of typed are.
func scope(t *testing.T) elab.Env {
	t.Helper()
	return env(t, "n", "1 10", "x", "0 15", "F", "1 (3 10 U0)", "q", "1 (18 15)", "t", "1 14", "o", "0 v0", "p", "1 (6 10 (5 v4 v0))", "f", "1 (3 10 (5 v5 v0))", "G", "1 (3 (18 15) 14)", "c", "0 (17 15 (16 15 15))")
}

// goals are types that forms in that scope are checked against, as env has them.
func goals() []string {
	return []string{"0 15", "0 (16 15 15)", "0 (17 15 15)", "0 v5", "0 (5 v1 v6)", "1 10", "1 14", "1 U0", "1 U1", "1 (18 15)", "1 (18 (16 15 15))", "1 (18 (17 15 15))", "1 (18 v5)", "1 (3 10 10)", "1 (3 10 U0)", "1 (6 10 10)", "1 (3 10 (5 v8 v0))", "1 (6 10 (5 v8 v0))", "1 (6 U0 v0)"}
}

// P903: forms by hand, and with parts changed, where chapter 8 accepts them.
func TestAcceptedForms(t *testing.T) {
	e, d := scope(t), &die{31}
	var l []api.Form
	for _, s := range typed() {
		l = append(l, read(t, s))
	}
	accepted := 0
	for _, f := range l {
		some := 0
		for _, g := range goals() {
			some += agrees(t, e, f, int(g[0]-'0'), tm(t, g[2:]))
		}
		if some == 0 {
			t.Errorf("%s: not accepted", forms.Text(f))
		}
		for range 300 {
			g := goals()[d.of(len(goals()))]
			accepted += agrees(t, e, d.changed(f, l), int(g[0]-'0'), tm(t, g[2:]))
		}
	}
	if accepted < 5000 {
		t.Errorf("only %d", accepted)
	}
}

// P903: typed forms of plain types.
func TestTypedForms(t *testing.T) {
	count := [2]int{}
	for seed := range uint64(4000) {
		w := writer{die: &die{seed + 77}}
		for range w.of(6) {
			stage := w.of(2)
			w = w.with(w.name(), stage, w.plain(stage, 2))
		}
		stage := w.of(2)
		is := w.plain(stage, 3)
		s := w.form(stage, is, w.of(5))
		if len(s) > api.MaxText {
			continue
		}
		f := read(t, s)
		if _, err := elab.Check(w.env(), f, stage, is.term()); err != api.OK && err != api.ErrDeep {
			t.Errorf("%s: %d, %s: %v", s, stage, is.text(), err)
		}
		if agrees(t, w.env(), f, stage, is.term()) > 0 {
			count[stage]++
		}
	}
	if count[0] < 1000 || count[1] < 1000 {
		t.Errorf("only %v", count)
	}
}
