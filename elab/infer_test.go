package elab

import (
	"testing"

	"thyrsus/api"
)

// rowOf is what Infer tells: of a form its term, and that one's type.
type rowOf struct{ s, want, is string }

func inferAll(t *testing.T, e Env, stage int, l []rowOf) {
	t.Helper()
	for _, x := range l {
		infers(t, e, x.s, x.want, stage, x.is)
	}
}

// wrong is a form and its error.
type wrong struct {
	s    string
	want api.Errno
}

func refuseAll(t *testing.T, e Env, l []wrong) {
	t.Helper()
	for _, x := range l {
		refused(t, e, x.s, x.want)
	}
}

// P801: words that stand alone, and numbers.
func TestWordsAlone(t *testing.T) {
	inferAll(t, Env{}, 1, []rowOf{
		{"U0", "U0", "U1"}, {"U1", "U1", "U2"}, {"Nat", "10", "U0"}, {"zero", "11", "10"}, {"Ty", "14", "U0"}, {"Int", "15", "14"},
	})
	inferAll(t, Env{}, 0, []rowOf{{"0", "i0", "15"}, {"41", "i41", "15"}, {"-7", "i-7", "15"}, {"4611686018427387904", "i4611686018427387904", "15"}})
	refused(t, Env{}, "U2", api.ErrLevel)
	for _, s := range []string{"fn", "pi", "sig", "->", "*", "pair", "fst", "snd", "suc", "rec", "lift", "quote", "splice", "add", "sub", "mul", "div", "less", "if", "let", "fix", "the", "def"} {
		refused(t, Env{}, s, api.ErrForm)
		fails(t, Env{}, s, 1, nat(), api.ErrForm)
		refused(t, room(), s, api.ErrForm)
	}
}

// P801: (fn (x A) b) of programs and of object code.
func TestFunctions(t *testing.T) {
	e := room()
	inferAll(t, e, 1, []rowOf{
		{"(fn (k Nat) k)", "(4 10 v0)", "(3 10 10)"}, {"(fn (k Nat) n)", "(4 10 v10)", "(3 10 10)"}, {"(fn (A U0) (fn (x A) x))", "(4 U0 (4 v0 v0))", "(3 U0 (3 v0 v1))"},
		{"(fn (k (F n)) k)", "(4 (5 v7 v9) v0)", "(3 (5 v7 v9) (5 v8 v10))"}, {"(fn (k Nat) (f k))", "(4 10 (5 v3 v0))", "(3 10 (5 v8 v0))"}, {"(fn (y (lift Int)) y)", "(4 (18 15) v0)", "(3 (18 15) (18 15))"},
		{"(fn (A Ty) Int)", "(4 14 15)", "(3 14 14)"}, {"(fn (k Nat) U1)", "(4 10 U1)", "(3 10 U2)"}, {"(fn (A U1) A)", "(4 U1 v0)", "(3 U1 U1)"},
		{"(fn (k ((fn (A U0) A) Nat)) (suc k))", "(4 (5 (4 U0 v0) 10) (12 v0))", "(3 10 10)"},
	})
	inferAll(t, e, 0, []rowOf{
		{"(fn (y Int) y)", "(20 15 v0)", "(16 15 15)"}, {"(fn (y t) y)", "(20 v5 v0)", "(16 v5 v5)"}, {"(fn (y Int) o)", "(20 15 v5)", "(16 15 v5)"}, {"(fn (y Int) q)", "(20 15 (30 v7))", "(16 15 15)"},
		{"(fn (y Int) (quote y))", "(20 15 (30 (19 v0)))", "(16 15 15)"}, {"(fn (y (-> Int Int)) (y x))", "(20 (16 15 15) (21 v0 v9))", "(16 (16 15 15) 15)"}, {"(fn (y T) y)", "(20 15 v0)", "(16 15 15)"},
		{"(fn (y (G q)) y)", "(20 (5 v1 v6) v0)", "(16 (5 v1 v6) (5 v1 v6))"}, {"(fn (y ((fn (A Ty) A) Int)) y)", "(20 (5 (4 14 v0) 15) v0)", "(16 15 15)"},
	})
	refuseAll(t, e, []wrong{
		{"(fn (k Nat) 1)", api.ErrStage}, {"(fn (k Nat) x)", api.ErrStage}, {"(fn (y Int) n)", api.ErrStage}, {"(fn (y Int) Nat)", api.ErrStage}, {"(fn (k 1) k)", api.ErrStage}, {"(fn (k x) k)", api.ErrStage},
		{"(fn (k n) k)", api.ErrShape}, {"(fn (k q) k)", api.ErrShape}, {"(fn (k F) k)", api.ErrShape}, {"(fn (k zero) k)", api.ErrShape}, {"(fn (k U2) k)", api.ErrLevel},
		{"(fn k k)", api.ErrGuess}, {"(fn k 1)", api.ErrGuess}, {"(fn (y Int) (fn k k))", api.ErrGuess}, {"(fn (y zz) y)", api.ErrName}, {"(fn (y Int) zz)", api.ErrName},
	})
}

// P801: ErrScope, of fn and let.
func TestTypesThatWouldOutlive(t *testing.T) {
	e := room().with("g", 1, pi(lifted(whole()), lifted(app(v(2), v(0))))) // makes code of a type that hangs on code
	stands(t, e)
	refuseAll(t, e, []wrong{
		{"(fn (y Int) (g y))", api.ErrScope}, {"(fn (y Int) (splice (g (quote y))))", api.ErrScope}, {"(fn (y Int) (pair 1 (g y)))", api.ErrScope}, {"(let (y 1) (g y))", api.ErrScope},
		{"(let (y q) (pair (splice (g y)) y))", api.ErrScope}, {"(fn (y Int) (fn (z Int) (g y)))", api.ErrScope}, {"(fn (y Int) (fn (z Int) (g z)))", api.ErrScope},
		{"(fn (y Int) (fn (z (G y)) z))", api.ErrScope}, {"(quote (let (y 1) (g y)))", api.ErrScope}, {"(the (-> Int (G q)) (fn y (let (z y) (g z))))", api.ErrScope},
		{"(let (y 1) (fn (z (G y)) 1))", api.ErrScope}, {"(let (y 1) (let (z 1) (g y)))", api.ErrScope}, {"(let (y 1) (fix (z (G y)) z))", api.ErrScope},
	})
	inferAll(t, e, 0, []rowOf{
		{"(fn (y Int) (g x))", "(20 15 (30 (5 v1 (19 v10))))", "(16 15 (5 v2 (19 v9)))"}, {"(let (y 1) (g x))", "(28 i1 (30 (5 v1 (19 v10))))", "(5 v2 (19 v9))"},
		{"(fn (y Int) (fst (pair y (g y))))", "(20 15 (23 (22 v0 (30 (5 v1 (19 v0))))))", "(16 15 15)"}, {"(let (y 1) (fst (pair y (g y))))", "(28 i1 (23 (22 v0 (30 (5 v1 (19 v0))))))", "15"},
		{"(let (y q) (let (z 1) (fst (pair (fn (a Int) y) (g z)))))", "(28 (30 v7) (28 i1 (23 (22 (20 15 v2) (30 (5 v2 (19 v0)))))))", "(16 15 15)"},
	})
}

// P801: types of programs, and of object code.
func TestTypes(t *testing.T) {
	inferAll(t, room(), 1, []rowOf{
		{"(pi (k Nat) (F k))", "(3 10 (5 v8 v0))", "U0"}, {"(sig (k Nat) (F k))", "(6 10 (5 v8 v0))", "U0"}, {"(pi (A U0) A)", "(3 U0 v0)", "U1"}, {"(sig (A U0) Nat)", "(6 U0 10)", "U1"},
		{"(pi (A U1) A)", "(3 U1 v0)", "U2"}, {"(pi (k Nat) U1)", "(3 10 U1)", "U2"}, {"(sig (k Nat) U0)", "(6 10 U0)", "U1"}, {"(pi (A Ty) Ty)", "(3 14 14)", "U0"}, {"(pi (A Ty) (lift A))", "(3 14 (18 v0))", "U0"},
		{"(-> Nat (F n))", "(3 10 (5 v8 v10))", "U0"}, {"(* (F n) (F two))", "(6 (5 v7 v9) (5 v8 (12 (12 11))))", "U0"}, {"(-> U0 U1)", "(3 U0 U1)", "U2"}, {"(* U1 Nat)", "(6 U1 10)", "U2"}, {"(-> Nat U0)", "(3 10 U0)", "U1"},
		{"(-> Ty Ty)", "(3 14 14)", "U0"}, {"(-> (-> Nat Nat) (* Nat Nat))", "(3 (3 10 10) (6 10 10))", "U0"}, {"(-> Nat (pi (k Nat) (F k)))", "(3 10 (3 10 (5 v9 v0)))", "U0"},
		{"(-> Int Int)", "(16 15 15)", "14"}, {"(* Int t)", "(17 15 v5)", "14"}, {"(-> t (* T (G q)))", "(16 v5 (17 15 (5 v1 v6)))", "14"}, {"(-> (G (quote x)) Int)", "(16 (5 v1 (19 v8)) 15)", "14"},
		{"(lift Int)", "(18 15)", "U0"}, {"(lift t)", "(18 v5)", "U0"}, {"(lift (-> Int t))", "(18 (16 15 v5))", "U0"}, {"(-> ((fn (A U1) A) U0) Nat)", "(3 (5 (4 U1 v0) U0) 10)", "U1"},
	})
	refuseAll(t, room(), []wrong{
		{"(pi (k Int) Nat)", api.ErrShape}, {"(sig (k Int) Int)", api.ErrShape}, {"(pi (k n) Nat)", api.ErrShape}, {"(pi (k Nat) k)", api.ErrShape}, {"(pi (k Nat) Int)", api.ErrShape}, {"(sig (k Nat) F)", api.ErrShape},
		{"(pi (k x) Nat)", api.ErrStage}, {"(pi (k Nat) 1)", api.ErrStage}, {"(sig (k 1) Nat)", api.ErrStage}, {"(sig (k Nat) x)", api.ErrStage}, {"(pi (k U2) Nat)", api.ErrLevel}, {"(sig (k Nat) U2)", api.ErrLevel},
		{"(-> Int Nat)", api.ErrType}, {"(-> Int Ty)", api.ErrType}, {"(* Int n)", api.ErrType}, {"(* Int q)", api.ErrType}, {"(-> Int 1)", api.ErrStage}, {"(* Int x)", api.ErrStage}, {"(-> Int (pair Int Int))", api.ErrShape}, {"(* Int (fn y y))", api.ErrShape},
		{"(-> Nat Int)", api.ErrShape}, {"(* Nat n)", api.ErrShape}, {"(-> Nat 1)", api.ErrStage}, {"(* Nat x)", api.ErrStage}, {"(-> Nat U2)", api.ErrLevel}, {"(-> n Nat)", api.ErrShape}, {"(* q Int)", api.ErrShape}, {"(-> 1 Int)", api.ErrStage}, {"(* x Int)", api.ErrStage}, {"(-> U2 Nat)", api.ErrLevel},
		{"(-> Nat (fn y y))", api.ErrGuess}, {"(lift Nat)", api.ErrType}, {"(lift n)", api.ErrType}, {"(lift Ty)", api.ErrType}, {"(lift 1)", api.ErrStage}, {"(lift x)", api.ErrStage}, {"(lift (if x 1 2))", api.ErrStage}, {"(lift (fn y y))", api.ErrShape}, {"(lift (pair Int Int))", api.ErrShape},
	})
}

// P801: what stands in the place of A in (-> A B) is not in scope in B.
func TestNamelessTypes(t *testing.T) {
	e := Env{}.with("", 1, u(0)).with("A", 1, u(0))
	infers(t, e, "(-> A (-> A A))", "(3 v0 (3 v1 v2))", 1, "U0")
	infers(t, e, "(* A (* A A))", "(6 v0 (6 v1 v2))", 1, "U0")
	infers(t, e, "(-> (pi (B U0) B) (pi (A U0) A))", "(3 (3 U0 v0) (3 U0 v0))", 1, "U1")
}

// P801: pairs and their parts.
func TestPairs(t *testing.T) {
	inferAll(t, room(), 0, []rowOf{
		{"(pair 1 x)", "(22 i1 v8)", "(17 15 15)"}, {"(pair x q)", "(22 v8 (30 v6))", "(17 15 15)"}, {"(pair inc (pair o c))", "(22 (20 15 (26/0 v0 i1)) (22 v4 v0))", "(17 (16 15 15) (17 v5 (17 15 (16 15 15))))"},
		{"(fst c)", "(23 v0)", "15"}, {"(snd c)", "(24 v0)", "(16 15 15)"}, {"(fst (pair 1 q))", "(23 (22 i1 (30 v6)))", "15"}, {"(snd (pair 1 q))", "(24 (22 i1 (30 v6)))", "15"},
		{"(fst (quote c))", "(23 (30 (19 v0)))", "15"}, {"(snd (quote c))", "(24 (30 (19 v0)))", "(16 15 15)"}, {"(pair (fst c) (snd c))", "(22 (23 v0) (24 v0))", "(17 15 (16 15 15))"},
	})
	inferAll(t, room(), 1, []rowOf{
		{"(fst p)", "(8 v3)", "10"}, {"(snd p)", "(9 v3)", "(5 v7 (8 v3))"}, {"(fst (the (* Nat Nat) (pair 1 2)))", "(8 (7 (6 10 10) (12 11) (12 (12 11))))", "10"}, {"(snd (the (* Nat Ty) (pair 1 Int)))", "(9 (7 (6 10 14) (12 11) 15))", "14"},
		{"(snd (the (sig (A U0) A) (pair Nat 1)))", "(9 (7 (6 U0 v0) 10 (12 11)))", "10"}, {"(snd (the (sig (k Nat) (F (dup k))) (pair 1 (f 2))))", "(9 (7 (6 10 (5 v8 (13 10 v0 (12 v0) v0))) (12 11) (5 v2 (12 (12 11)))))", "(5 v7 (12 (12 11)))"},
	})
	refuseAll(t, room(), []wrong{
		{"(pair n 1)", api.ErrGuess}, {"(pair q 1)", api.ErrGuess}, {"(pair zero zero)", api.ErrGuess}, {"(pair Nat zz)", api.ErrGuess}, {"(pair 1 n)", api.ErrStage}, {"(pair 1 Nat)", api.ErrStage}, {"(pair 1 (fn y y))", api.ErrGuess},
		{"(fst x)", api.ErrShape}, {"(snd o)", api.ErrShape}, {"(fst inc)", api.ErrShape}, {"(fst q)", api.ErrShape}, {"(snd q)", api.ErrShape}, {"(fst n)", api.ErrStage}, {"(snd F)", api.ErrStage}, {"(fst Nat)", api.ErrStage},
		{"(fst (pair n n))", api.ErrGuess}, {"(fst zz)", api.ErrName},
	})
}

// P801: numbers of Nat, and what goes through them.
func TestNaturals(t *testing.T) {
	inferAll(t, room(), 1, []rowOf{
		{"(suc zero)", "(12 11)", "10"}, {"(suc 1)", "(12 (12 11))", "10"}, {"(suc n)", "(12 v9)", "10"}, {"(suc (dup n))", "(12 (5 (4 10 (13 10 v0 (12 v0) v0)) v9))", "10"},
		{"(rec (k Nat) 1 (k h (suc h)) n)", "(13 10 (12 11) (12 v0) v9)", "10"}, {"(rec (k Nat) n (k h k) 0)", "(13 10 v9 v1 11)", "10"}, {"(rec (k (F k)) (f 0) (k h (f (suc k))) n)", "(13 (5 v8 v0) (5 v2 11) (5 v4 (12 v1)) v9)", "(5 v7 v9)"},
		{"(rec (k (F (dup k))) (f 0) (k h (f (dup (suc k)))) 1)", "(13 (5 v8 (5 (4 10 (13 10 v0 (12 v0) v0)) v0)) (5 v2 11) (5 v4 (5 (4 10 (13 10 v0 (12 v0) v0)) (12 v1))) (12 11))", "(5 v7 (12 (12 11)))"},
		{"(rec (k U0) Nat (k h (-> Nat h)) 2)", "(13 U0 10 (3 10 v1) (12 (12 11)))", "U0"}, {"(rec (k (lift Int)) 1 (k h (add h x)) n)", "(13 (18 15) (19 i1) (19 (26/0 (30 v0) v10)) v9)", "(18 15)"},
		{"(rec (k (-> Nat Nat)) (fn a a) (k h (fn a (h k))) n)", "(13 (3 10 10) (4 10 v0) (4 10 (5 v1 v2)) v9)", "(3 10 10)"}, {"(rec (h Nat) 0 (h h h) 0)", "(13 10 11 v0 11)", "10"},
		{"(rec (k (rec (j U0) Nat (a b Nat) k)) 1 (a b 2) 0)", "(13 (13 U0 10 10 v0) (12 11) (12 (12 11)) 11)", "10"},
	})
	refuseAll(t, room(), []wrong{
		{"(suc x)", api.ErrStage}, {"(suc -1)", api.ErrArg}, {"(suc 41)", api.ErrArg}, {"(suc Nat)", api.ErrType}, {"(suc q)", api.ErrType}, {"(suc F)", api.ErrType}, {"(suc (fn k k))", api.ErrShape}, {"(suc (pair 1 2))", api.ErrShape}, {"(suc (if x 1 2))", api.ErrStage},
		{"(rec (k Int) 0 (k h h) 0)", api.ErrShape}, {"(rec (k k) 0 (k h h) 0)", api.ErrShape}, {"(rec (k 1) 0 (k h h) 0)", api.ErrStage}, {"(rec (k x) 0 (k h h) 0)", api.ErrStage}, {"(rec (k U2) Nat (k h h) 0)", api.ErrLevel},
		{"(rec (k Nat) Nat (k h h) 0)", api.ErrType}, {"(rec (k Nat) 0 (k h Nat) 0)", api.ErrType}, {"(rec (k Nat) 0 (k h h) Nat)", api.ErrType}, {"(rec (k (F k)) (f 1) (k h (f (suc k))) 0)", api.ErrType}, {"(rec (k (F k)) (f 0) (k h h) 0)", api.ErrType}, {"(rec (k (F k)) (f 0) (k h (f k)) 0)", api.ErrType},
		{"(rec (k Nat) 41 (k h h) 0)", api.ErrArg}, {"(rec (k Nat) 0 (k h x) 0)", api.ErrStage}, {"(rec (k Nat) 0 (k h h) x)", api.ErrStage}, {"(rec (k Nat) h (k h h) 0)", api.ErrName}, {"(rec (k Nat) 0 (a h h) k)", api.ErrName}, {"(rec (k Nat) 0 (a h k) 0)", api.ErrName},
	})
}

// P801: quote, splice.
func TestQuotations(t *testing.T) {
	inferAll(t, room(), 1, []rowOf{
		{"(quote 1)", "(19 i1)", "(18 15)"}, {"(quote x)", "(19 v8)", "(18 15)"}, {"(quote q)", "(19 (30 v6))", "(18 15)"}, {"(quote (quote x))", "(19 (30 (19 v8)))", "(18 15)"}, {"(quote (splice q))", "(19 (30 v6))", "(18 15)"},
		{"(quote (fn (y t) y))", "(19 (20 v5 v0))", "(18 (16 v5 v5))"}, {"(quote (fn (y Int) (quote (splice (quote y)))))", "(19 (20 15 (30 (19 (30 (19 v0))))))", "(18 (16 15 15))"},
	})
	inferAll(t, room(), 0, []rowOf{{"(splice q)", "(30 v6)", "15"}, {"(splice (quote x))", "(30 (19 v8))", "15"}, {"(splice (the (lift (-> Int Int)) inc))", "(30 (19 (20 15 (26/0 v0 i1))))", "(16 15 15)"}})
	refuseAll(t, room(), []wrong{
		{"(quote n)", api.ErrStage}, {"(quote Nat)", api.ErrStage}, {"(quote (fn y y))", api.ErrGuess}, {"(splice x)", api.ErrStage}, {"(splice 1)", api.ErrStage}, {"(splice n)", api.ErrStage}, {"(splice (splice q))", api.ErrStage}, {"(splice zz)", api.ErrName},
	})
}

// P801: numbers of object code, if, let, fix.
func TestCodes(t *testing.T) {
	inferAll(t, room(), 0, []rowOf{
		{"(add 1 x)", "(26/0 i1 v8)", "15"}, {"(sub q 1)", "(26/1 (30 v6) i1)", "15"}, {"(mul x x)", "(26/2 v8 v8)", "15"}, {"(div 1 0)", "(26/3 i1 i0)", "15"}, {"(less 1 (quote 2))", "(26/4 i1 (30 (19 i2)))", "15"}, {"(add (if x 1 2) (fst c))", "(26/0 (27 v8 i1 i2) (23 v0))", "15"},
		{"(if x 1 2)", "(27 v8 i1 i2)", "15"}, {"(if q q q)", "(27 (30 v6) (30 v6) (30 v6))", "15"}, {"(if 1 inc (fn y y))", "(27 i1 (20 15 (26/0 v0 i1)) (20 15 v0))", "(16 15 15)"}, {"(if 1 c (pair x inc))", "(27 i1 v0 (22 v8 (20 15 (26/0 v0 i1))))", "(17 15 (16 15 15))"}, {"(if (if 1 2 3) o o)", "(27 (27 i1 i2 i3) v4 v4)", "v5"},
		{"(let (y 1) y)", "(28 i1 v0)", "15"}, {"(let (y q) (pair y o))", "(28 (30 v6) (22 v0 v5))", "(17 15 v5)"}, {"(let (y x) q)", "(28 v8 (30 v7))", "15"}, {"(let (x x) x)", "(28 v8 v0)", "15"}, {"(let (y inc) (y (y x)))", "(28 (20 15 (26/0 v0 i1)) (21 v0 (21 v0 v9)))", "15"},
		{"(fix (y Int) (add y 1))", "(29 15 (26/0 v0 i1))", "15"}, {"(fix (y (-> Int Int)) (fn z (y z)))", "(29 (16 15 15) (20 15 (21 v1 v0)))", "(16 15 15)"}, {"(fix (y t) o)", "(29 v5 v5)", "v5"}, {"(fix (y Int) q)", "(29 15 (30 v7))", "15"}, {"(fix (y ((fn (A Ty) (* A A)) Int)) (pair 1 (fst y)))", "(29 (5 (4 14 (17 v0 v0)) 15) (22 i1 (23 v0)))", "(17 15 15)"}, {"(fix (y (G q)) y)", "(29 (5 v1 v6) v0)", "(5 v1 v6)"},
	})
	refuseAll(t, room(), []wrong{
		{"(add n 1)", api.ErrStage}, {"(sub 1 zero)", api.ErrStage}, {"(mul inc 1)", api.ErrType}, {"(div 1 o)", api.ErrType}, {"(less (pair 1 2) 1)", api.ErrShape}, {"(add (fn y y) 1)", api.ErrShape}, {"(add (quote inc) 1)", api.ErrType},
		{"(if n 1 2)", api.ErrStage}, {"(if inc 1 2)", api.ErrType}, {"(if 1 n 2)", api.ErrStage}, {"(if 1 2 n)", api.ErrStage}, {"(if 1 2 inc)", api.ErrType}, {"(if 1 inc 2)", api.ErrType}, {"(if 1 (fn y y) inc)", api.ErrGuess}, {"(if 1 (pair n n) c)", api.ErrGuess}, {"(if 1 2 (pair 1 2))", api.ErrShape},
		{"(let (y n) 1)", api.ErrStage}, {"(let (y 1) n)", api.ErrStage}, {"(let (y (fn z z)) 1)", api.ErrGuess}, {"(let (y y) 1)", api.ErrName},
		{"(fix (y Nat) y)", api.ErrType}, {"(fix (y 1) y)", api.ErrStage}, {"(fix (y Int) inc)", api.ErrType}, {"(fix (y Int) n)", api.ErrStage}, {"(fix (y Int) (fn z z))", api.ErrShape}, {"(fix (y (-> Int Int)) y 1)", api.ErrForm}, {"(fix (y y) 1)", api.ErrName},
	})
}

// P801: the.
func TestThe(t *testing.T) {
	inferAll(t, room(), 1, []rowOf{
		{"(the Nat 3)", "(12 (12 (12 11)))", "10"}, {"(the Nat n)", "v9", "10"}, {"(the U0 Nat)", "10", "U0"}, {"(the U1 U0)", "U0", "U1"}, {"(the Ty Int)", "15", "14"}, {"(the (lift Int) 3)", "(19 i3)", "(18 15)"}, {"(the (lift Int) x)", "(19 v8)", "(18 15)"}, {"(the (lift Int) q)", "v6", "(18 15)"},
		{"(the (pi (k Nat) (F k)) f)", "v2", "(3 10 (5 v8 v0))"}, {"(the (F (dup 1)) (f 2))", "(5 v2 (12 (12 11)))", "(5 v7 (12 (12 11)))"}, {"(the (-> Nat Nat) (fn k (suc k)))", "(4 10 (12 v0))", "(3 10 10)"},
		{"(the (F (the Nat n)) (f n))", "(5 v2 v9)", "(5 v7 v9)"}, {"(the (-> Nat U0) (fn k (F k)))", "(4 10 (5 v8 v0))", "(3 10 U0)"},
	})
	inferAll(t, room(), 0, []rowOf{
		{"(the Int 3)", "i3", "15"}, {"(the T 3)", "i3", "15"}, {"(the Int q)", "(30 v6)", "15"}, {"(the t o)", "v4", "v5"}, {"(the (-> Int Int) (fn y y))", "(20 15 v0)", "(16 15 15)"}, {"(the ((fn (A Ty) A) Int) x)", "v8", "15"}, {"(the (* Int Int) (pair q 1))", "(22 (30 v6) i1)", "(17 15 15)"},
	})
	refuseAll(t, room(), []wrong{
		{"(the n 3)", api.ErrShape}, {"(the q 3)", api.ErrShape}, {"(the 3 3)", api.ErrStage}, {"(the x x)", api.ErrStage}, {"(the U2 U1)", api.ErrLevel}, {"(the Nat x)", api.ErrStage}, {"(the Nat Nat)", api.ErrType}, {"(the Int n)", api.ErrStage}, {"(the Int inc)", api.ErrType}, {"(the Nat -1)", api.ErrArg}, {"(the Int (fn y y))", api.ErrShape}, {"(the (F n) (f two))", api.ErrType}, {"(the zz 1)", api.ErrName},
	})
	// equal, but not the same: the type that is told is the one that was said
	e := Env{}.with("g", 1, pi(nat(), nat())).with("P", 1, pi(pi(nat(), nat()), u(0))).with("y", 1, app(v(0), v(1)))
	infers(t, e, "(the (P (fn (k Nat) (g k))) y)", "v0", 1, "(5 v1 (4 10 (5 v3 v0)))")
	infers(t, e, "y", "v0", 1, "(5 v1 v2)")
}

// P801: calls.
func TestCalls(t *testing.T) {
	inferAll(t, room(), 1, []rowOf{
		{"(F n)", "(5 v7 v9)", "U0"}, {"(F 2)", "(5 v7 (12 (12 11)))", "U0"}, {"(f n)", "(5 v2 v9)", "(5 v7 v9)"}, {"(f (dup 1))", "(5 v2 (5 (4 10 (13 10 v0 (12 v0) v0)) (12 11)))", "(5 v7 (12 (12 11)))"}, {"(dup two)", "(5 (4 10 (13 10 v0 (12 v0) v0)) (12 (12 11)))", "10"}, {"(G 1)", "(5 v1 (19 i1))", "14"}, {"(G q)", "(5 v1 v6)", "14"},
		{"((fn (a Nat) (fn (b Nat) a)) 1 2)", "(5 (5 (4 10 (4 10 v1)) (12 11)) (12 (12 11)))", "10"}, {"((fn (A U0) (fn (x A) x)) Nat 3)", "(5 (5 (4 U0 (4 v0 v0)) 10) (12 (12 (12 11))))", "10"}, {"((fn (A U0) (fn (x A) x)) (-> Nat Nat) dup 1)", "(5 (5 (5 (4 U0 (4 v0 v0)) (3 10 10)) (4 10 (13 10 v0 (12 v0) v0))) (12 11))", "10"},
		{"((the (rec (k U0) Nat (k h (-> Nat h)) (dup 1)) (fn a (fn b b))) 1 2)", "(5 (5 (4 10 (4 10 v0)) (12 11)) (12 (12 11)))", "10"}, {"((fn (a (* Nat Nat)) (fst a)) (pair 1 2))", "(5 (4 (6 10 10) (8 v0)) (7 (6 10 10) (12 11) (12 (12 11))))", "10"},
	})
	inferAll(t, room(), 0, []rowOf{
		{"(inc 1)", "(21 (20 15 (26/0 v0 i1)) i1)", "15"}, {"(inc q)", "(21 (20 15 (26/0 v0 i1)) (30 v6))", "15"}, {"((snd c) 1)", "(21 (24 v0) i1)", "15"}, {"((quote inc) 1)", "(21 (30 (19 (20 15 (26/0 v0 i1)))) i1)", "15"}, {"((fn (y Int) (fn (z t) z)) 1 o)", "(21 (21 (20 15 (20 v6 v0)) i1) v4)", "v5"},
		{"((fn (k Nat) (quote inc)) 1 2)", "(21 (30 (5 (4 10 (19 (20 15 (26/0 v0 i1)))) (12 11))) i2)", "15"}, {"((fn (y (-> Int Int)) (y 1)) (fn z z))", "(21 (20 (16 15 15) (21 v0 i1)) (20 15 v0))", "15"},
		{"((the (-> Nat (-> Nat (lift (-> Int (-> Int Int))))) (fn a (fn b (fn y (fn z y))))) 1 2 3 4)", "(21 (21 (30 (5 (5 (4 10 (4 10 (19 (20 15 (20 15 v1))))) (12 11)) (12 (12 11)))) i3) i4)", "15"},
	})
	refuseAll(t, room(), []wrong{
		{"(zz 1)", api.ErrName}, {"(n n)", api.ErrStage}, {"(F n n)", api.ErrStage}, {"(p 1)", api.ErrStage}, {"(x 1)", api.ErrShape}, {"(q 1)", api.ErrShape}, {"(c 1)", api.ErrShape}, {"(inc 1 2)", api.ErrShape}, {"((quote 1) 1)", api.ErrShape}, {"(o o)", api.ErrShape},
		{"(F x)", api.ErrStage}, {"(F F)", api.ErrType}, {"(F q)", api.ErrType}, {"(F 41)", api.ErrArg}, {"(inc n)", api.ErrStage}, {"(inc inc)", api.ErrType}, {"(inc (fn y y))", api.ErrShape}, {"(inc 1 zz)", api.ErrShape}, {"(inc zz 1)", api.ErrName}, {"((fn y y) 1)", api.ErrGuess}, {"((pair n n) 1)", api.ErrGuess}, {"((fn (A U0) (fn (x A) x)) Nat x)", api.ErrStage},
	})
}
