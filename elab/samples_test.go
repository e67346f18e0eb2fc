package elab

import (
	"testing"

	"thyrsus/api"
	"thyrsus/forms"
	"thyrsus/term"
)

// dependent is the room, and nearest a maker of code whose type hangs on code: m: Pi (Lift TInt) (Lift (G v0)).
func dependent() Env {
	return room().with("m", 1, pi(lifted(whole()), lifted(app(v(2), v(0)))))
}

// handMade are forms in whose types values stand, in that Env.
func handMade() []string {
	power := "(the (-> Nat (-> (lift Int) (lift Int))) (fn k (fn y (rec (m (lift Int)) 1 (m r (mul y r)) k))))"
	twice := "(the (pi (A U0) (-> (-> A A) (-> A A))) (fn A (fn s (fn z (s (s z))))))"
	some := "(the (sig (A U0) (* A (-> A Nat))) (pair (* Nat Nat) (pair (pair 1 2) (fn r (snd r)))))"
	return []string{
		"n", "x", "F", "q", "t", "o", "p", "f", "G", "c", "two", "inc", "dup", "T", "(f n)", "(f two)", "(f (dup two))", "(dup two)", "(F (dup 3))",
		"(fst p)", "(snd p)", "(fst c)", "(snd c)", "((snd c) q)", "(G q)", "(G x)", "(G (quote (add x 1)))", "(fn (z t) z)", "(fn (z T) (inc z))", "(fn (z (G q)) (pair z o))",
		"(fn (k Nat) (f (suc k)))", "(fn (k (F n)) (pair k k))", "(the (sig (k Nat) (F k)) (pair 3 (f 3)))", "(the (sig (k Nat) (F k)) p)", "(the (pi (k Nat) (F k)) f)", "(the (pi (k Nat) (F k)) (fn k (f k)))",
		"(rec (k (F k)) (f zero) (k h (f (suc k))) (dup two))", "(rec (k U0) Nat (k h (-> Nat h)) (dup two))", "(the (rec (k U0) Nat (k h (-> Nat h)) (dup two)) (fn a (fn b (fn c (fn d a)))))",
		power, "(" + power + " 3 q)", "(fn (y Int) (" + power + " 3 y))", "(quote (" + power + " 2 (inc x)))", twice, "(" + twice + " Nat (fn k (suc k)) 1)", "(" + twice + " (lift Int) (fn k (inc k)) 5)",
		some, "(fst " + some + ")", "(fst (snd " + some + "))", "((snd (snd " + some + ")) (fst (snd " + some + ")))", "(fix (l (-> Int Int)) (fn y (if (less y 2) 1 (mul y (l (sub y 1))))))",
		"(let (y (pair x inc)) (let (z (fst y)) ((snd y) z)))", "(let (y (inc 3)) (add y q))", "(let (y o) (pair y y))", "(the (G x) o)", "(fn (y Int) (the (G y) o))", "(fn (y Int) (splice (the (lift (G y)) (quote o))))",
		"(the (pi (y t) Nat) 3)", "(pi (A U0) (-> A A))", "(sig (A U0) (* A A))", "(-> U1 U0)", "(* U0 U1)", "(pi (A U1) A)", "(the U1 (-> U0 U0))", "(the U0 Nat)", "(the U1 U0)", "(-> t (* Int (G q)))",
		"(quote (quote (splice q)))", "(splice (quote q))", "(the (lift (-> Int Int)) inc)", "(the (lift (-> Int Int)) (fn y (add y x)))", "(the (lift (* Int Int)) (pair q x))", "(the (lift Int) (if q q 1))",
		"(if q inc (fn y y))", "(if x (fn (y Int) y) inc)", "(pair inc (pair q x))", "(fst (pair 1 2))", "((the (pi (k Nat) (-> (F k) (F k))) (fn k (fn r r))) n (f n))", "(the (-> Nat U0) F)", "(the (-> Nat U0) (fn k (F k)))",
		"(snd (the (sig (A U1) A) (pair U0 Nat)))", "((the (pi (A U1) (-> A A)) (fn A (fn r r))) U0 Nat)", "(fn (e (pi (A U0) A)) (e Nat))", "(fn (e (lift (-> Int Int))) (e 1))", "(fn (e (lift (* Int Int))) (add (fst e) (snd e)))",
		"(m x)", "(m (quote x))", "(fn (y Int) (m y))", "(fn (y Int) (m x))", "(let (y 1) (m q))", "(let (y 1) (m y))", "(let (y 1) (fst (pair y (m y))))", "(fn (y (lift Int)) (m y))", "(fn (y (lift Int)) (quote (fn (z (G y)) (pair z (m y)))))", "(fn (y Int) (the (G x) (m x)))", "(let (y (m x)) (pair y y))", "(fix (y (G q)) (m q))",
		"(fn (e (* (lift Int) Nat)) (add (fst e) 1))", "(suc (suc 38))", "(the Nat 40)", "(the Nat 0)", "(div 1 0)", "(less -4611686018427387904 4611686018427387904)",
	}
}

// changed is a copy of a form in which one part is another one, is gone, or stands twice.
func (d *die) changed(f api.Form, others []api.Form) api.Form {
	if f.Kind != api.FList || len(f.L) == 0 || d.of(4) == 0 {
		return d.instead(f, others)
	}
	l := append([]api.Form{}, f.L...)
	at, to := d.of(len(l)), d.of(len(l))
	switch d.of(12) {
	case 0:
		l = append(l[:at], l[at+1:]...)
	case 1:
		l = append(l, l[at])
	case 2:
		l[at], l[to] = l[to], l[at]
	default:
		l[at] = d.changed(l[at], others)
	}
	return api.Form{Kind: api.FList, L: l}
}

// instead is what may stand in the place of a form.
func (d *die) instead(f api.Form, others []api.Form) api.Form {
	wrap := func(l ...api.Form) api.Form { return api.Form{Kind: api.FList, L: l} }
	name := func(l ...string) api.Form { return api.Form{Kind: api.FName, S: l[d.of(len(l))]} }
	switch d.of(7) {
	case 0:
		return api.Form{Kind: api.FNum, N: []int{0, 1, 3, 40, 41, -1, 7}[d.of(7)]}
	case 1, 2:
		return name("n", "x", "F", "q", "t", "o", "p", "f", "G", "c", "two", "inc", "dup", "T", "a", "b", "c'", "d_", "E9", "k", "y", "m", "zz")
	case 3:
		return name("U0", "U1", "U2", "Nat", "zero", "Ty", "Int", "fn", "->", "def", "rec", "Int", "Nat", "Ty")
	case 4:
		if f.Kind == api.FList && len(f.L) > 0 {
			return f.L[d.of(len(f.L))]
		}
		return wrap(name("quote", "splice", "fst", "snd", "suc", "lift"), f)
	case 5:
		return wrap(name("quote", "splice", "fst", "snd", "suc", "lift"), f)
	}
	g := others[d.of(len(others))]
	for g.Kind == api.FList && len(g.L) > 0 && d.of(3) > 0 {
		g = g.L[d.of(len(g.L))]
	}
	return g
}

// compare holds Infer and Check against the second telling, and what they tell against
// the small checker and against the form; it tells Infer's error.
func compare(t *testing.T, e Env, f api.Form, g asked) api.Errno {
	t.Helper()
	s := cut(forms.Text(f))
	x, at, is, err := Infer(e, f)
	y, at2, is2, err2 := toldInfer(e, f)
	if !agree(err, err2) || at != at2 || err == api.OK && !(term.Same(x, y) && term.Same(is, is2)) {
		t.Errorf("%s: %s, %d, %s, %v, not %s, %d, %s, %v", s, short(x), at, short(is), err, short(y), at2, short(is2), err2)
	}
	if err == api.OK {
		sound(t, e, f, s, at, x, is)
	}
	z, err3 := Check(e, f, g.stage, g.a)
	w, err4 := toldCheck(e, f, g.stage, g.a)
	if !agree(err3, err4) || err3 == api.OK && !term.Same(z, w) {
		t.Errorf("%s: %d, %s: %s, %v, not %s, %v", s, g.stage, short(g.a), short(z), err3, short(w), err4)
	}
	if err3 == api.OK {
		sound(t, e, f, s, g.stage, z, g.a)
	}
	return err
}

// agree tells whether two errors are the same, or both are of what is not light.
func agree(a, b api.Errno) bool { return a == b || heavy(a) && heavy(b) }
