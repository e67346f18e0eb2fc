package elab

import (
	"strconv"
	"strings"
	"testing"

	"thyrsus/api"
	"thyrsus/forms"
	"thyrsus/norm"
	"thyrsus/term"
)

// tys is a type of object code, of so many nodes (an odd count).
func tys(n int) api.Tm {
	if n == 1 {
		return whole()
	}
	a := (n-1)/4*2 + 1
	return tPro(tys(a), tys(n-1-a))
}

// chain is a type of object code that is so deep.
func chain(n int) api.Tm {
	a := whole()
	for range n - 1 {
		a = tFun(whole(), a)
	}
	return a
}

// sums is a number of object code, of so many nodes (an odd count).
func sums(n int) api.Tm {
	if n == 1 {
		return i(0)
	}
	a := (n-1)/4*2 + 1
	return numbered(api.OPrim, api.PAdd, sums(a), sums(n-1-a))
}

// arrows is a type of functions of so many numbers, of Nat.
func arrows(m, n api.Tm) api.Tm { return rec(u(0), nat(), pi(nat(), v(1)), add(m, n)) }

// long is a number, by too many steps.
func long() api.Tm {
	flip := lam(nat(), rec(nat(), num(1), zero(), v(0)))
	often := rec(pi(nat(), nat()), flip, lam(nat(), app(v(1), app(v(1), v(0)))), num(60))
	return app(often, num(1))
}

// P801: term.Check's bounds of the whole term: 3000 nodes, 120 deep.
func TestGreatTerms(t *testing.T) {
	e := Env{}.def("a", 0, sums(2999), whole()).def("b", 0, sums(1499), whole()).def("c", 1, num(118), nat()).def("d", 1, num(119), nat())
	stands(t, e)
	infers(t, e, "a", term.Text(sums(2999)), 0, "15")
	infers(t, e, "(quote a)", term.Text(quo(sums(2999))), 1, "(18 15)")
	checks(t, e, "a", 1, lifted(whole()), term.Text(quo(sums(2999))))
	infers(t, e, "(add b b)", term.Text(numbered(api.OPrim, api.PAdd, sums(1499), sums(1499))), 0, "15")
	refuseAll(t, e, []wrong{{"(quote (quote a))", api.ErrDeep}, {"(add a 1)", api.ErrDeep}, {"(add (add b b) 1)", api.ErrDeep}, {"(splice (quote a))", api.ErrDeep}, {"(suc d)", api.ErrDeep}, {"(suc (suc c))", api.ErrDeep}, {"(add (add b b) n)", api.ErrName}, {"(add (add b b) zero)", api.ErrStage}})
	fails(t, e, "(quote a)", 0, whole(), api.ErrDeep)
	fails(t, e, "(quote a)", 0, fun(), api.ErrType)
	infers(t, e, "d", term.Text(num(119)), 1, "10")
	infers(t, e, "(suc c)", term.Text(num(119)), 1, "10")
	infers(t, e, nested(29, "(suc ", "40", ")"), term.Text(num(69)), 1, "10")
	infers(t, e, "(the ((fn (k Nat) Nat) d) 1)", "(12 11)", 1, "10") // A is in no term
	infers(t, e, "(the ((fn (k Nat) Nat) (suc d)) 1)", "(12 11)", 1, "10")
	// more than a term may have many times over, with an error behind it
	s := "(add a a)"
	for range 7 {
		s = "(add " + s + " " + s + ")"
	}
	refused(t, e, s, api.ErrDeep)
	refused(t, e, "(add "+s+" zz)", api.ErrName)
	refused(t, e, "(let (y "+s+") (y 1))", api.ErrShape)
}

// P801: a type (of a rec) of more nodes than term.Shift takes: of the whole term, so.
func TestTypesTooGreatToShift(t *testing.T) {
	e := Env{}.def("a", 0, sums(2999), whole())
	f := read(t, "(add a a)")
	for range 11 {
		f = api.Form{Kind: api.FList, L: []api.Form{{Kind: api.FName, S: "add"}, f, f}}
	}
	g := read(t, "(rec (k ((fn (y (lift Int)) Nat) (quote a))) 0 (a h h) 0)")
	g.L[1].L[1].L[1].L[1] = f
	x, _, a, err := Infer(e, g)
	if err != api.ErrDeep || !empty(x) || !empty(a) {
		t.Errorf("%s, %s, %v", short(x), short(a), err)
	}
	g.L[2] = api.Form{Kind: api.FName, S: "zz"}
	if _, _, _, err := Infer(e, g); err != api.ErrName {
		t.Errorf("%v", err)
	}
}

// P801: types that are told are normal ones, so as great and as deep as those may be.
func TestGreatTypes(t *testing.T) {
	for _, x := range []struct{ a, b api.Tm }{
		{tys(1499), tys(1499)}, {tys(1499), tys(1501)}, {tys(2997), whole()}, {tys(2999), whole()}, {whole(), tys(2999)}, {tys(2999), tys(2999)},
		{chain(119), whole()}, {whole(), chain(119)}, {chain(120), whole()}, {whole(), chain(120)}, {chain(118), chain(119)},
	} {
		e := Env{}.with("a", 0, x.a).with("b", 0, x.b)
		stands(t, e)
		for s, want := range map[string]api.Tm{"(pair a b)": tPro(x.a, x.b), "(let (y a) (pair y b))": tPro(x.a, x.b), "(pair (fst (pair 1 2)) b)": tPro(whole(), x.b), "(fn (y Int) a)": tFun(whole(), x.a), "(quote b)": lifted(x.b), "(fn (k Nat) (quote a))": pi(nat(), lifted(x.a))} {
			_, _, a, err := Infer(e, read(t, s))
			if err != term.Check(want) || err == api.OK && !term.Same(a, want) {
				t.Errorf("%s: %s, %v, not %s, %v", s, short(a), err, short(want), term.Check(want))
			}
			if err == api.OK {
				continue
			}
			refused(t, e, "(pair "+s+" zz)", api.ErrDeep)
			refused(t, e, "(fst "+s+")", api.ErrDeep)
		}
	}
	e := Env{}.with("a", 0, tys(2999)).with("l", 1, lifted(chain(119)))
	infers(t, e, "(if 1 a (if 2 a a))", "(27 i1 v1 (27 i2 v1 v1))", 0, term.Text(tys(2999)))
	infers(t, e, "(let (y a) y)", "(28 v1 v0)", 0, term.Text(tys(2999)))
	checks(t, e, "(if 1 a (if 2 a a))", 0, tys(2999), "(27 i1 v1 (27 i2 v1 v1))")
	infers(t, e, "(splice l)", "(30 v0)", 0, term.Text(chain(119)))
	infers(t, e, "(l"+strings.Repeat(" 1", 118)+")", term.Text(called(spl(v(0)), 118)), 0, "15")
	refused(t, e, "(l"+strings.Repeat(" 1", 119)+")", api.ErrShape)
}

// called is a function of object code with so many arguments.
func called(f api.Tm, n int) api.Tm {
	for range n {
		f = of(api.OApp, f, i(1))
	}
	return f
}

// P801: norm.Normal's errors, where a type must be normal, and nowhere else.
func TestTypesThatAreNotLight(t *testing.T) {
	if _, err := norm.Normal(long()); err != api.ErrFuel {
		t.Fatalf("%v: not long", err)
	}
	e := room().def("deep", 1, arrows(num(60), num(60)), u(0)).def("long", 1, long(), nat()).def("code", 1, rec(ty(), whole(), tFun(whole(), v(0)), add(num(60), num(60))), ty()).def("high", 1, add(num(60), num(60)), nat())
	for _, d := range e.Defs {
		if term.Check(d.T) != api.OK {
			t.Fatalf("%s: no term", d.Name)
		}
	}
	for _, s := range []string{"(fn (k deep) k)", "(fn (k (F long)) k)", "(fn (k deep) zero)", "(f long)", "(f high)", "(the deep (fn k k))", "(the (F long) (f zero))", "(fn (y code) y)", "(fn (y code) 1)", "(fix (y code) y)", "(the code (fn y y))", "(rec (k (F long)) (f 0) (a h h) 0)", "(rec (k (F k)) (f 0) (a h (f (suc a))) long)", "(the (-> Nat deep) (fn a (fn b b)))", "(pi (k deep) (the Nat k))"} {
		_, _, _, err := Infer(e, read(t, s))
		if !heavy(err) {
			t.Errorf("%s: %v", s, err)
		}
		refused(t, e, s, err)
	}
	inferAll(t, e, 1, []rowOf{{"long", term.Text(long()), "10"}, {"(suc long)", term.Text(of(api.Suc, long())), "10"}, {"(F long)", term.Text(app(v(7), long())), "U0"}, {"(pi (k deep) Nat)", term.Text(pi(arrows(num(60), num(60)), nat())), "U0"}, {"(-> (F long) deep)", term.Text(pi(app(v(7), long()), arrows(num(60), num(60)))), "U0"}, {"(-> code code)", term.Text(tFun(e.Defs[6].T, e.Defs[6].T)), "14"}, {"(lift code)", term.Text(lifted(e.Defs[6].T)), "U0"}})
	// a type that is handed in as it is, and is not normal: conv.Equal's error
	for _, a := range []api.Tm{app(v(7), long()), arrows(num(60), num(60))} {
		if _, err := Check(e, read(t, "n"), 1, a); !heavy(err) {
			t.Errorf("%s: %v", short(a), err)
		}
	}
	// a variable whose type nobody asks for
	g := e.with("w", 1, app(v(7), long()))
	infers(t, g, "n", "v10", 1, "10")
	_, _, _, err := Infer(g, read(t, "w"))
	if !heavy(err) {
		t.Errorf("%v", err)
	}
	refused(t, g, "w", err)
	fails(t, g, "w", 1, nat(), err)
}

// P801: what is put in many places of a type is no heavier for it.
func TestArgumentsInManyPlaces(t *testing.T) {
	var places func(n, under int) api.Tm
	places = func(n, under int) api.Tm {
		if n == 0 {
			return rec(u(0), nat(), v(0), v(under))
		}
		return sig(places(n-1, under), places(n-1, under+1))
	}
	var want func(n int) api.Tm
	want = func(n int) api.Tm {
		if n == 0 {
			return nat()
		}
		return sig(want(n-1), want(n-1))
	}
	e := Env{}.with("f", 1, pi(nat(), places(8, 0)))
	stands(t, e)
	zeros := add(zero(), add(zero(), zero()))
	e = e.def("z", 1, zeros, nat())
	infers(t, e, "(f z)", term.Text(app(v(0), zeros)), 1, term.Text(want(8)))
}

// P801: lists as deep as forms.Check allows, and long ones.
func TestGreatForms(t *testing.T) {
	infers(t, Env{}, nested(30, "(suc ", "0", ")"), term.Text(num(30)), 1, "10")
	infers(t, Env{}, nested(29, "(quote ", "(add 1 2)", ")"), term.Text(wrapped(29, numbered(api.OPrim, api.PAdd, i(1), i(2)))), 1, "(18 15)")
	deep := api.Form{Kind: api.FList, L: []api.Form{{Kind: api.FName, S: "suc"}, read(t, nested(30, "(suc ", "0", ")"))}}
	if _, _, _, err := Infer(Env{}, deep); err != api.ErrDeep {
		t.Errorf("%v", err)
	}
	// 2^16 forms in all, and one more
	l := []api.Form{{Kind: api.FName, S: "f"}}
	for len(l) < 1<<16-1 {
		l = append(l, api.Form{Kind: api.FNum, N: 1})
	}
	f := api.Form{Kind: api.FList, L: l}
	e := Env{}.with("f", 0, fun())
	if _, _, _, err := Infer(e, f); err != api.ErrShape || forms.Check(f) != api.OK {
		t.Errorf("%v", err)
	}
	f.L[len(l)-1] = api.Form{Kind: api.FList, L: []api.Form{{Kind: api.FNum}}}
	if _, err := Check(e, f, 0, whole()); err != api.ErrDeep {
		t.Errorf("%v", err)
	}
	var many Env
	for k := range 20000 {
		many = Env{append(many.Names, "a"+strconv.Itoa(k%3)), append(many.G, api.Var1{Stage: 1, T: nat()}), nil}
	}
	infers(t, many, "(fn (k Nat) a1)", "(4 10 v1)", 1, "(3 10 10)")
}

// wrapped is what quotations of a term of object code are, so many of them: spliced again, but the outermost one.
func wrapped(n int, x api.Tm) api.Tm {
	x = quo(x)
	for range n - 1 {
		x = quo(spl(x))
	}
	return x
}
