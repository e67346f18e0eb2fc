package elab

import (
	"testing"

	"thyrsus/api"
	"thyrsus/term"
)

// asked is a form, and the type that it must have, at a stage.
type asked struct {
	s     string
	stage int
	a     api.Tm
}

func fun() api.Tm { return tFun(whole(), whole()) }

func both() api.Tm { return tPro(whole(), whole()) }

// P801: numbers.
func TestCheckNumbers(t *testing.T) {
	e := room()
	for _, n := range []string{"0", "1", "2", "39", "40"} {
		k := read(t, n).N
		checks(t, e, n, 1, nat(), term.Text(num(k)))
		checks(t, e, n, 0, whole(), term.Text(i(k)))
		checks(t, e, n, 1, lifted(whole()), term.Text(quo(i(k))))
	}
	for _, n := range []string{"41", "-1", "4611686018427387904", "-4611686018427387904", "1000"} {
		fails(t, e, n, 1, nat(), api.ErrArg)
		checks(t, e, n, 0, whole(), term.Text(i(read(t, n).N)))
		checks(t, e, n, 1, lifted(whole()), term.Text(quo(i(read(t, n).N))))
	}
	for _, a := range []api.Tm{ty(), u(0), u(1), pi(nat(), nat()), sig(nat(), nat()), app(v(7), num(1))} {
		fails(t, e, "2", 1, a, api.ErrStage)
		fails(t, e, "41", 1, a, api.ErrStage)
	}
	for _, a := range []api.Tm{fun(), both(), v(5)} {
		fails(t, e, "2", 0, a, api.ErrType)
		fails(t, e, "2", 1, lifted(a), api.ErrType)
	}
}

// P801: (fn x b).
func TestCheckFunctions(t *testing.T) {
	e := room()
	for _, x := range []struct {
		asked
		want string
	}{
		{asked{"(fn k k)", 1, pi(nat(), nat())}, "(4 10 v0)"}, {asked{"(fn k 3)", 1, pi(nat(), nat())}, "(4 10 (12 (12 (12 11))))"}, {asked{"(fn k (f k))", 1, pi(nat(), app(v(8), v(0)))}, "(4 10 (5 v3 v0))"}, {asked{"(fn k n)", 1, pi(u(0), nat())}, "(4 U0 v10)"},
		{asked{"(fn A (fn y y))", 1, pi(u(0), pi(v(0), v(1)))}, "(4 U0 (4 v0 v0))"}, {asked{"(fn k (pair k k))", 1, pi(nat(), sig(nat(), nat()))}, "(4 10 (7 (6 10 10) v0 v0))"}, {asked{"(fn y x)", 1, pi(nat(), lifted(whole()))}, "(4 10 (19 v9))"}, {asked{"(fn y 7)", 1, pi(nat(), lifted(whole()))}, "(4 10 (19 i7))"},
		{asked{"(fn y y)", 0, fun()}, "(20 15 v0)"}, {asked{"(fn y q)", 0, fun()}, "(20 15 (30 v7))"}, {asked{"(fn y (fn z (add y z)))", 0, tFun(whole(), fun())}, "(20 15 (20 15 (26/0 v1 v0)))"}, {asked{"(fn y o)", 0, tFun(whole(), v(5))}, "(20 15 v5)"}, {asked{"(fn o o)", 0, tFun(v(5), v(5))}, "(20 v5 v0)"}, {asked{"(fn y (pair y 1))", 0, tFun(v(5), tPro(v(5), whole()))}, "(20 v5 (22 v0 i1))"},
		{asked{"(fn y y)", 1, lifted(fun())}, "(19 (20 15 v0))"}, {asked{"(fn y o)", 1, lifted(tFun(whole(), v(5)))}, "(19 (20 15 v5))"}, {asked{"(fn y (fn z y))", 1, lifted(tFun(v(5), tFun(whole(), v(5))))}, "(19 (20 v5 (20 15 v1)))"},
		{asked{"(fn (k Nat) k)", 1, pi(nat(), nat())}, "(4 10 v0)"}, {asked{"(fn (y Int) y)", 0, fun()}, "(20 15 v0)"}, {asked{"(fn (y Int) y)", 1, lifted(fun())}, "(19 (20 15 v0))"}, {asked{"(fn (y T) (inc y))", 0, fun()}, "(20 15 (21 (20 15 (26/0 v0 i1)) v0))"},
	} {
		checks(t, e, x.s, x.stage, x.a, x.want)
	}
	for _, a := range []api.Tm{nat(), u(0), ty(), sig(nat(), nat()), app(v(7), v(9))} {
		fails(t, e, "(fn k k)", 1, a, api.ErrShape)
		fails(t, e, "(fn k zz)", 1, a, api.ErrShape)
	}
	for _, a := range []api.Tm{whole(), both(), v(5), app(v(1), v(6))} {
		fails(t, e, "(fn k k)", 0, a, api.ErrShape)
		fails(t, e, "(fn k k)", 1, lifted(a), api.ErrShape)
	}
	for _, x := range []struct {
		asked
		want api.Errno
	}{
		{asked{"(fn k zz)", 1, pi(nat(), nat())}, api.ErrName}, {asked{"(fn k 41)", 1, pi(nat(), nat())}, api.ErrArg}, {asked{"(fn k x)", 1, pi(nat(), nat())}, api.ErrStage}, {asked{"(fn k F)", 1, pi(nat(), nat())}, api.ErrType}, {asked{"(fn k (f n))", 1, pi(nat(), app(v(8), v(0)))}, api.ErrType},
		{asked{"(fn y n)", 0, fun()}, api.ErrStage}, {asked{"(fn y inc)", 0, fun()}, api.ErrType}, {asked{"(fn y (fn z z))", 0, fun()}, api.ErrShape}, {asked{"(fn y n)", 1, lifted(fun())}, api.ErrStage},
		{asked{"(fn (k Nat) k)", 1, nat()}, api.ErrType}, {asked{"(fn (k Nat) k)", 1, lifted(fun())}, api.ErrType}, {asked{"(fn (k Nat) k)", 0, fun()}, api.ErrStage}, {asked{"(fn (y Int) y)", 1, pi(nat(), nat())}, api.ErrStage}, {asked{"(fn (y Int) y)", 0, whole()}, api.ErrType}, {asked{"(fn (y Int) y)", 1, lifted(whole())}, api.ErrType}, {asked{"(fn (k Nat) 1)", 1, pi(nat(), nat())}, api.ErrStage}, {asked{"(fn (k n) k)", 1, pi(nat(), nat())}, api.ErrShape},
	} {
		fails(t, e, x.s, x.stage, x.a, x.want)
	}
}

// P801: (pair x y).
func TestCheckPairs(t *testing.T) {
	e := room()
	for _, x := range []struct {
		asked
		want string
	}{
		{asked{"(pair 1 2)", 1, sig(nat(), nat())}, "(7 (6 10 10) (12 11) (12 (12 11)))"}, {asked{"(pair Nat 2)", 1, sig(u(0), v(0))}, "(7 (6 U0 v0) 10 (12 (12 11)))"}, {asked{"(pair (lift Int) 2)", 1, sig(u(0), v(0))}, "(7 (6 U0 v0) (18 15) (19 i2))"}, {asked{"(pair (-> Nat Nat) (fn k k))", 1, sig(u(0), v(0))}, "(7 (6 U0 v0) (3 10 10) (4 10 v0))"},
		{asked{"(pair n (f n))", 1, sig(nat(), app(v(8), v(0)))}, "(7 (6 10 (5 v8 v0)) v9 (5 v2 v9))"}, {asked{"(pair (dup 1) (f 2))", 1, sig(nat(), app(v(8), v(0)))}, "(7 (6 10 (5 v8 v0)) (5 (4 10 (13 10 v0 (12 v0) v0)) (12 11)) (5 v2 (12 (12 11))))"}, {asked{"(pair 1 (pair 2 3))", 1, sig(nat(), sig(nat(), nat()))}, "(7 (6 10 (6 10 10)) (12 11) (7 (6 10 10) (12 (12 11)) (12 (12 (12 11)))))"},
		{asked{"(pair 1 2)", 0, both()}, "(22 i1 i2)"}, {asked{"(pair q x)", 0, both()}, "(22 (30 v6) v8)"}, {asked{"(pair (fn y y) (pair 1 o))", 0, tPro(fun(), tPro(whole(), v(5)))}, "(22 (20 15 v0) (22 i1 v4))"},
		{asked{"(pair 1 2)", 1, lifted(both())}, "(19 (22 i1 i2))"}, {asked{"(pair q (fn y y))", 1, lifted(tPro(whole(), fun()))}, "(19 (22 (30 v6) (20 15 v0)))"}, {asked{"(pair x 1)", 1, sig(lifted(whole()), lifted(whole()))}, "(7 (6 (18 15) (18 15)) (19 v8) (19 i1))"},
	} {
		checks(t, e, x.s, x.stage, x.a, x.want)
	}
	for _, a := range []api.Tm{nat(), u(0), ty(), pi(nat(), nat()), app(v(7), v(9))} {
		fails(t, e, "(pair 1 2)", 1, a, api.ErrShape)
		fails(t, e, "(pair zz 2)", 1, a, api.ErrShape)
	}
	for _, a := range []api.Tm{whole(), fun(), v(5)} {
		fails(t, e, "(pair 1 2)", 0, a, api.ErrShape)
		fails(t, e, "(pair 1 2)", 1, lifted(a), api.ErrShape)
	}
	for _, x := range []struct {
		asked
		want api.Errno
	}{
		{asked{"(pair 41 2)", 1, sig(nat(), nat())}, api.ErrArg}, {asked{"(pair 1 41)", 1, sig(nat(), nat())}, api.ErrArg}, {asked{"(pair x 1)", 1, sig(nat(), nat())}, api.ErrStage}, {asked{"(pair n (f two))", 1, sig(nat(), app(v(8), v(0)))}, api.ErrType}, {asked{"(pair Nat Nat)", 1, sig(u(0), v(0))}, api.ErrType}, {asked{"(pair Int 1)", 1, sig(u(0), v(0))}, api.ErrType},
		{asked{"(pair n 1)", 0, both()}, api.ErrStage}, {asked{"(pair 1 n)", 0, both()}, api.ErrStage}, {asked{"(pair 1 inc)", 0, both()}, api.ErrType}, {asked{"(pair inc 1)", 0, both()}, api.ErrType}, {asked{"(pair 1 n)", 1, lifted(both())}, api.ErrStage},
	} {
		fails(t, e, x.s, x.stage, x.a, x.want)
	}
}

// P801: (if c x y).
func TestCheckChoices(t *testing.T) {
	e := room()
	for _, x := range []struct {
		asked
		want string
	}{
		{asked{"(if x 1 2)", 0, whole()}, "(27 v8 i1 i2)"}, {asked{"(if q q q)", 0, whole()}, "(27 (30 v6) (30 v6) (30 v6))"}, {asked{"(if x (fn y y) inc)", 0, fun()}, "(27 v8 (20 15 v0) (20 15 (26/0 v0 i1)))"}, {asked{"(if x (pair 1 2) (if x (pair 3 4) (pair 5 6)))", 0, both()}, "(27 v8 (22 i1 i2) (27 v8 (22 i3 i4) (22 i5 i6)))"},
		{asked{"(if x 1 2)", 1, lifted(whole())}, "(19 (27 v8 i1 i2))"}, {asked{"(if x (fn y y) (fn z 1))", 1, lifted(fun())}, "(19 (27 v8 (20 15 v0) (20 15 i1)))"}, {asked{"(if x o o)", 0, v(5)}, "(27 v8 v4 v4)"},
	} {
		checks(t, e, x.s, x.stage, x.a, x.want)
	}
	for _, x := range []struct {
		asked
		want api.Errno
	}{
		{asked{"(if n 1 2)", 0, whole()}, api.ErrStage}, {asked{"(if inc 1 2)", 0, whole()}, api.ErrType}, {asked{"(if x n 2)", 0, whole()}, api.ErrStage}, {asked{"(if x 1 n)", 0, whole()}, api.ErrStage}, {asked{"(if x inc 2)", 0, whole()}, api.ErrType}, {asked{"(if x 1 inc)", 0, whole()}, api.ErrType}, {asked{"(if x 1 2)", 0, fun()}, api.ErrType}, {asked{"(if x (fn y y) 1)", 0, whole()}, api.ErrShape},
		{asked{"(if x 1 2)", 1, nat()}, api.ErrStage}, {asked{"(if x 1 2)", 1, ty()}, api.ErrStage}, {asked{"(if x 1 inc)", 1, nat()}, api.ErrType}, {asked{"(if x (fn y y) inc)", 1, nat()}, api.ErrGuess}, {asked{"(if x 1 2)", 1, lifted(fun())}, api.ErrType}, {asked{"(if x 1 n)", 1, lifted(whole())}, api.ErrStage},
	} {
		fails(t, e, x.s, x.stage, x.a, x.want)
	}
}

// P801: all others, by Infer.
func TestCheckOthers(t *testing.T) {
	e := room()
	for _, x := range []struct {
		asked
		want string
	}{
		{asked{"n", 1, nat()}, "v9"}, {asked{"x", 0, whole()}, "v8"}, {asked{"two", 1, nat()}, "(12 (12 11))"}, {asked{"U1", 1, u(2)}, "U1"}, {asked{"(f (dup 1))", 1, app(v(7), num(2))}, "(5 v2 (5 (4 10 (13 10 v0 (12 v0) v0)) (12 11)))"}, {asked{"f", 1, pi(nat(), app(v(8), v(0)))}, "v2"},
		{asked{"q", 0, whole()}, "(30 v6)"}, {asked{"(quote o)", 0, v(5)}, "(30 (19 v4))"}, {asked{"x", 1, lifted(whole())}, "(19 v8)"}, {asked{"(add 1 x)", 1, lifted(whole())}, "(19 (26/0 i1 v8))"}, {asked{"inc", 1, lifted(fun())}, "(19 (20 15 (26/0 v0 i1)))"}, {asked{"q", 1, lifted(whole())}, "v6"}, {asked{"(splice q)", 1, lifted(whole())}, "(19 (30 v6))"},
		{asked{"(let (y 1) (pair y y))", 1, lifted(both())}, "(19 (28 i1 (22 v0 v0)))"}, {asked{"(fix (y Int) y)", 1, lifted(whole())}, "(19 (29 15 v0))"}, {asked{"(the Int 1)", 1, lifted(whole())}, "(19 i1)"}, {asked{"(the (lift Int) 1)", 0, whole()}, "(30 (19 i1))"}, {asked{"(fst c)", 1, lifted(whole())}, "(19 (23 v0))"},
	} {
		checks(t, e, x.s, x.stage, x.a, x.want)
	}
	for _, x := range []struct {
		asked
		want api.Errno
	}{
		{asked{"n", 1, u(0)}, api.ErrType}, {asked{"x", 0, fun()}, api.ErrType}, {asked{"Nat", 1, u(1)}, api.ErrType}, {asked{"U0", 1, u(0)}, api.ErrType}, {asked{"Int", 1, u(0)}, api.ErrType}, {asked{"q", 1, lifted(fun())}, api.ErrType}, {asked{"(f n)", 1, app(v(7), num(1))}, api.ErrType}, {asked{"q", 1, nat()}, api.ErrType},
		{asked{"n", 0, whole()}, api.ErrStage}, {asked{"Nat", 0, whole()}, api.ErrStage}, {asked{"f", 0, fun()}, api.ErrStage}, {asked{"q", 0, fun()}, api.ErrType}, {asked{"q", 0, v(5)}, api.ErrType},
		{asked{"x", 1, nat()}, api.ErrStage}, {asked{"x", 1, pi(nat(), nat())}, api.ErrStage}, {asked{"x", 1, whole()}, api.ErrStage}, {asked{"x", 1, lifted(fun())}, api.ErrType}, {asked{"o", 1, lifted(whole())}, api.ErrType},
		{asked{"zz", 1, nat()}, api.ErrName}, {asked{"(fst n)", 1, nat()}, api.ErrStage}, {asked{"(the Nat 41)", 1, u(0)}, api.ErrArg}, {asked{"U2", 1, u(2)}, api.ErrLevel}, {asked{"(pair 1 2 3)", 0, both()}, api.ErrForm},
	} {
		fails(t, e, x.s, x.stage, x.a, x.want)
	}
}

// P801: types that are equal, but not the same.
func TestCheckIsUpToEta(t *testing.T) {
	e := Env{}.with("g", 1, pi(nat(), nat())).with("P", 1, pi(pi(nat(), nat()), u(0))).with("y", 1, app(v(0), v(1))).with("r", 1, sig(nat(), nat())).
		with("Q", 1, pi(sig(nat(), nat()), ty())).with("w", 0, app(v(0), v(1))).with("lq", 1, lifted(app(v(1), v(2))))
	stands(t, e)
	around := lam(nat(), app(v(7), v(0)))                                    // of g
	parts := pairOf(sig(nat(), nat()), of(api.Fst, v(3)), of(api.Snd, v(3))) // of r
	checks(t, e, "y", 1, app(v(5), around), "v4")
	checks(t, e, "w", 0, app(v(2), parts), "v1")
	checks(t, e, "lq", 0, app(v(2), parts), "(30 v0)")
	checks(t, e, "w", 1, lifted(app(v(2), parts)), "(19 v1)")
	checks(t, e, "lq", 1, lifted(app(v(2), parts)), "v0")
	fails(t, e, "y", 1, app(v(5), lam(nat(), v(0))), api.ErrType)
	fails(t, e, "w", 0, app(v(2), pairOf(sig(nat(), nat()), of(api.Snd, v(3)), of(api.Fst, v(3)))), api.ErrType)
	fails(t, e, "lq", 0, app(v(2), pairOf(sig(nat(), nat()), zero(), zero())), api.ErrType)
}

// P801: the document's own example.
func TestExample(t *testing.T) {
	checks(t, Env{}, "2", 1, nat(), "(12 (12 11))")
}
