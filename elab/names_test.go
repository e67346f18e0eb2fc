package elab

import (
	"strconv"
	"testing"

	"thyrsus/api"
	"thyrsus/term"
)

// P801: the nearest of Names, ahead of Defs; the last of these of one name.
func TestNames(t *testing.T) {
	e := Env{}.with("a", 1, nat()).with("b", 0, whole()).with("a", 1, u(0)).with("d", 1, v(0)).
		def("d", 0, i(1), whole()).def("e", 1, num(1), nat()).def("e", 0, i(2), whole()).def("e", 1, num(3), nat()).def("b", 1, num(4), nat())
	stands(t, e)
	infers(t, e, "a", "v1", 1, "U0")
	infers(t, e, "b", "v2", 0, "15")
	infers(t, e, "d", "v0", 1, "v1")
	infers(t, e, "e", "(12 (12 (12 11)))", 1, "10")
	infers(t, e, "(fn (a Nat) a)", "(4 10 v0)", 1, "(3 10 10)")
	infers(t, e, "(fn (a a) a)", "(4 v1 v0)", 1, "(3 v1 v2)")
	infers(t, e, "(fn (e Int) e)", "(20 15 v0)", 0, "(16 15 15)")
	infers(t, e, "(fn (k Nat) d)", "(4 10 v1)", 1, "(3 10 v2)")
	infers(t, e, "(pair (let (e 5) e) (let (b (fn (z Int) z)) (b 1)))", "(22 (28 i5 v0) (28 (20 15 v0) (21 v0 i1)))", 0, "(17 15 15)")
	infers(t, e, "(rec (e Nat) e (b e (suc b)) e)", "(13 10 (12 (12 (12 11))) (12 v1) (12 (12 (12 11))))", 1, "10")
	infers(t, e, "(rec (k Nat) 0 (k k k) 0)", "(13 10 11 v0 11)", 1, "10") // the nearer one is h
	refuseAll(t, e, []wrong{{"c", api.ErrName}, {"A", api.ErrName}, {"aa", api.ErrName}, {"a'", api.ErrName}, {"nat", api.ErrName}, {"u0", api.ErrName}, {"(fn (k Nat) kk)", api.ErrName}, {"(pair (fn (k Int) k) k)", api.ErrName}, {"(-> Nat k)", api.ErrName}, {"(let (k k) 1)", api.ErrName}, {"(fix (k k) 1)", api.ErrName}, {"(the zz zz)", api.ErrName}})
	refused(t, Env{}, "x", api.ErrName)
	// what begins as a word does is none
	w := Env{}.with("U3", 1, nat()).with("zero'", 1, nat()).with("fn_", 1, nat()).with("DEF", 1, nat()).with("Fix", 1, nat()).with("abcdefghijklmnopqrst", 1, nat())
	for n, s := range []string{"abcdefghijklmnopqrst", "Fix", "DEF", "fn_", "zero'", "U3"} {
		infers(t, w, s, term.Text(v(n)), 1, "10")
		infers(t, w, "(fn ("+s+" Nat) "+s+")", "(4 10 v0)", 1, "(3 10 10)")
	}
}

// P801: words stay words, whatever an Env may call so.
func TestWordsAreNoNames(t *testing.T) {
	e := Env{}.with("zero", 0, whole()).with("fst", 0, whole()).with("def", 0, whole()).def("Nat", 0, i(1), whole()).def("let", 0, i(1), whole())
	infers(t, e, "zero", "11", 1, "10")
	infers(t, e, "Nat", "10", 1, "U0")
	refuseAll(t, e, []wrong{{"fst", api.ErrForm}, {"def", api.ErrForm}, {"let", api.ErrForm}})
}

// P801: types of variables that are not normal yet, and what is asked of their shapes.
func TestVariablesOfOtherTypes(t *testing.T) {
	same := func(of0, a api.Tm) api.Tm { return app(lam(of0, v(0)), a) }
	e := Env{}.with("n", 1, same(u(0), nat())).with("f", 1, same(u(0), pi(nat(), nat()))).with("r", 1, of(api.Fst, pairOf(sig(u(0), u(0)), sig(nat(), nat()), nat()))).
		with("q", 1, lifted(same(ty(), whole()))).with("l", 1, rec(u(0), lifted(fun()), v(0), num(3))).with("x", 0, same(ty(), whole())).with("g", 0, rec(ty(), whole(), tFun(whole(), v(0)), num(2))).
		with("c", 0, same(ty(), both())).with("A", 1, same(u(1), u(0))).with("T", 1, same(u(0), ty())).def("s", 1, num(1), nat())
	stands(t, e)
	inferAll(t, e, 1, []rowOf{{"n", "v9", "10"}, {"f", "v8", "(3 10 10)"}, {"(f n)", "(5 v8 v9)", "10"}, {"(suc n)", "(12 v9)", "10"}, {"(fst r)", "(8 v7)", "10"}, {"(snd r)", "(9 v7)", "10"}, {"q", "v6", "(18 15)"}, {"(pi (k A) A)", "(3 v1 v2)", "U0"}, {"(-> A A)", "(3 v1 v2)", "U0"}, {"(* T Int)", "(17 v0 15)", "14"}, {"(fn (k A) k)", "(4 v1 v0)", "(3 v1 v2)"}})
	inferAll(t, e, 0, []rowOf{{"x", "v4", "15"}, {"(add x q)", "(26/0 v4 (30 v6))", "15"}, {"(l x)", "(21 (30 v5) v4)", "15"}, {"(g 1 2)", "(21 (21 v3 i1) i2)", "15"}, {"(g x)", "(21 v3 v4)", "(16 15 15)"}, {"(fst c)", "(23 v2)", "15"}, {"(snd c)", "(24 v2)", "15"}, {"(fn (y T) y)", "(20 v0 v0)", "(16 v0 v0)"}, {"(splice l)", "(30 v5)", "(16 15 15)"}})
	checks(t, e, "f", 1, pi(nat(), nat()), "v8")
	checks(t, e, "c", 1, lifted(both()), "(19 v2)")
	checks(t, e, "q", 0, whole(), "(30 v6)")
	refuseAll(t, e, []wrong{{"(n n)", api.ErrStage}, {"(f x)", api.ErrStage}, {"(g 1 2 3)", api.ErrShape}})
}

// P801: variables that are far away; the last one that a term may name is 3000.
func TestFarNames(t *testing.T) {
	var e Env
	for k := range 7003 {
		e.Names = append(e.Names, "m"+strconv.Itoa(k))
		e.G = append(e.G, api.Var1{Stage: 1, T: nat()})
	}
	name := func(n int) string { return "m" + strconv.Itoa(len(e.Names)-1-n) }
	e.G[0].T = pi(nat(), u(0))
	e.G[1].T = app(v(0), zero())
	for _, n := range []int{0, 1, 2999, 3000} {
		infers(t, e, name(n), "v"+strconv.Itoa(n), 1, "10")
	}
	infers(t, e, "(fn (k Nat) "+name(2999)+")", "(4 10 v3000)", 1, "(3 10 10)")
	infers(t, e, "(the Nat "+name(3000)+")", "v3000", 1, "10")
	for _, s := range []string{name(3001), name(6000), name(6001), name(7002), name(7001), "(fn (k Nat) " + name(3000) + ")", "(suc " + name(3001) + ")", "(" + name(7002) + " 1)", "(-> Nat (" + name(7002) + " " + name(6000) + "))"} {
		refused(t, e, s, api.ErrArg) // of the whole term, so
	}
	refused(t, e, "(suc "+name(7002)+")", api.ErrType)
	refused(t, e, "(pair 1 "+name(7002)+")", api.ErrStage)
	refused(t, e, "("+name(7002)+" "+name(7002)+")", api.ErrType)
	refused(t, e, "("+name(5000)+" 1)", api.ErrStage)
	refused(t, e, "(the ("+name(7002)+" 1) "+name(7001)+")", api.ErrType)
	refused(t, e, "(the ("+name(7002)+" 0) "+name(7001)+")", api.ErrArg)
}
