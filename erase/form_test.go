package erase

import (
	"math"
	"strconv"
	"strings"
	"testing"

	"thyrsus/api"
	"thyrsus/forms"
	"thyrsus/term"
)

// room are the names in scope of most tests: k is v1, n is v0, another n behind them is v2.
func room() []string { return []string{"n", "k", "n"} }

// says checks what Form tells in the room, as texts; in what is told, if it is a term, is nothing to take away.
func says(t *testing.T, rows [][2]string) {
	t.Helper()
	for _, x := range rows {
		y, e := Form(room(), read(t, x[0]))
		if got := term.Text(y); got != x[1] || e != api.OK {
			t.Errorf("%s: %s, %v, not %s", x[0], cut(got), e, cut(x[1]))
		}
		if got := Term(y); term.Check(y) == api.OK && !same(got, y) {
			t.Errorf("%s: %s, then %s", x[0], short(y), short(got))
		}
	}
}

// refuses checks the error of forms, with an empty term beside it.
func refuses(t *testing.T, want api.Errno, l ...string) {
	t.Helper()
	for _, s := range l {
		if x, e := Form(room(), read(t, s)); e != want || !empty(x) {
			t.Errorf("%s: %s, %v, not %v", s, short(x), e, want)
		}
	}
}

// P902: names, the nearest one where two are one name.
func TestNames(t *testing.T) {
	says(t, [][2]string{{"n", "v0"}, {"k", "v1"}, {"(fn n n)", "(4 11 v0)"}, {"(fn x n)", "(4 11 v1)"}, {"(fn x k)", "(4 11 v2)"}, {"(fn n (fn n n))", "(4 11 (4 11 v0))"}, {"((fn n n) n)", "(5 (4 11 v0) v0)"}, {"(pair (let (k 1) k) k)", "(7 11 (28 (12 11) v0) v1)"}, {"(rec (x Nat) n (n n n) n)", "(13 11 v0 v0 v0)"}})
	refuses(t, api.ErrName, "z", "x", "N", "nn", "k'", "u0", "nat", "Zero", "(fn x y)", "(pair (fn x x) x)", "(x n)", "(n x)", "(fst x)", "(rec (x Nat) x (m h h) n)", "(rec (x Nat) n (m h x) n)", "(rec (x Nat) n (m h h) m)", "(rec (x Nat) h (m h h) n)", "(let (x x) n)", "(pi (x x) n)", "(-> n x)", "(-> x n)")
	for _, x := range []struct {
		names []string
		s     string
		n     int
	}{{[]string{"x"}, "x", 0}, {[]string{"x", "y", "z"}, "x", 2}, {[]string{"x", "y", "x"}, "x", 0}, {[]string{"x", "x", "y"}, "x", 1}, {[]string{"abcdefghijklmnopqrst", "_", "a'"}, "abcdefghijklmnopqrst", 2}, {[]string{"U3", "_"}, "U3", 1}} {
		if y, e := Form(x.names, read(t, x.s)); e != api.OK || !same(y, v(x.n)) {
			t.Errorf("%v: %s: %s, %v", x.names, x.s, short(y), e)
		}
	}
	if y, e := Form(nil, read(t, "n")); e != api.ErrName || !empty(y) {
		t.Errorf("%s, %v", short(y), e)
	}
	// farther than a variable of a term may be
	many := []string{"far"}
	for n := range 100000 {
		many = append(many, "m"+strconv.Itoa(n%7))
	}
	if y, e := Form(many, read(t, "(fn x (far m0))")); e != api.OK || term.Text(y) != "(4 11 (5 v100001 v5))" {
		t.Errorf("%s, %v", short(y), e)
	}
}

// P902: words that stand alone; they are no names, whoever says so.
func TestWordsAlone(t *testing.T) {
	says(t, [][2]string{{"U0", "U0"}, {"U1", "U1"}, {"U2", "U2"}, {"Nat", "10"}, {"zero", "11"}, {"Ty", "14"}, {"Int", "15"}, {"(fn x U2)", "(4 11 U2)"}, {"(pair Ty Int)", "(7 11 14 15)"}})
	for _, s := range strings.Fields(words8) {
		x, e := Form(nil, read(t, s))
		y, e2 := Form([]string{s, s}, read(t, s))
		if e != e2 || !same(x, y) || e != api.OK && e != api.ErrForm {
			t.Errorf("%s: %s, %v; %s, %v", s, short(x), e, short(y), e2)
		}
	}
	refuses(t, api.ErrForm, "fn", "pi", "sig", "->", "*", "pair", "fst", "snd", "suc", "rec", "lift", "quote", "splice", "add", "sub", "mul", "div", "less", "if", "let", "fix", "the", "def", "(n fn)", "(pair def n)", "(fn x ->)", "(fst snd)")
}

// P902: numbers.
func TestNumbers(t *testing.T) {
	for n, want := range map[int]api.Tm{0: num(0), 1: num(1), 39: num(39), 40: num(40), 41: i(41), -1: i(-1), -40: i(-40), 1 << 62: i(1 << 62), -1 << 62: i(-1 << 62)} {
		s := strconv.Itoa(n)
		says(t, [][2]string{{s, term.Text(want)}, {"(quote " + s + ")", term.Text(want)}, {"(suc " + s + ")", term.Text(of(api.Suc, want))}, {"(fn x " + s + ")", term.Text(of(api.Lam, of(api.Zero), want))}, {"(the Nat " + s + ")", term.Text(want)}})
	}
}

// P902: the table, row by row.
func TestRows(t *testing.T) {
	says(t, [][2]string{
		{"(fn (x Nat) x)", "(4 11 v0)"}, {"(fn x x)", "(4 11 v0)"}, {"(fn (x Int) (fn y (x y n)))", "(4 11 (4 11 (5 (5 v1 v0) v2)))"},
		{"(pi (x k) x)", "(3 v1 v0)"}, {"(pi (x (fn x x)) (x k))", "(3 (4 11 v0) (5 v0 v2))"}, {"(sig (x k) x)", "(6 v1 v0)"}, {"(sig (n n) (sig (m n) (n m)))", "(6 v0 (6 v0 (5 v1 v0)))"}, {"(pi (x U0) (pi (y x) x))", "(3 U0 (3 v0 v1))"},
		{"(-> n k)", "(3 v0 v2)"}, {"(* n k)", "(6 v0 v2)"}, {"(-> n (-> n n))", "(3 v0 (3 v1 v2))"}, {"(-> (-> n n) n)", "(3 (3 v0 v1) v1)"}, {"(* (-> n k) (* k n))", "(6 (3 v0 v2) (6 v2 v2))"}, {"(-> Int (fn x (x n)))", "(3 15 (4 11 (5 v0 v2)))"}, {"(pi (x n) (-> x (pi (y x) (* y (x n)))))", "(3 v0 (3 v0 (3 v1 (6 v0 (5 v3 v4)))))"}, {"(-> k (rec (x x) n (m h (h m n)) k))", "(3 v1 (13 11 v1 (5 (5 v0 v1) v3) v2))"},
		{"(pair n k)", "(7 11 v0 v1)"}, {"(pair (pair 1 k) n)", "(7 11 (7 11 (12 11) v1) v0)"}, {"(fst n)", "(8 v0)"}, {"(snd (fst k))", "(9 (8 v1))"}, {"(suc zero)", "(12 11)"}, {"(suc n)", "(12 v0)"}, {"(lift (-> Int n))", "(18 (3 15 v1))"},
		{"(rec (x Nat) n (m h m) k)", "(13 11 v0 v1 v1)"}, {"(rec (x Nat) n (m h h) k)", "(13 11 v0 v0 v1)"}, {"(rec (x Nat) n (m h (n k)) k)", "(13 11 v0 (5 v2 v3) v1)"}, {"(rec (x Nat) n (h h h) k)", "(13 11 v0 v0 v1)"}, {"(rec (m Nat) (fn h h) (x y (fn z (z y x n))) (fst k))", "(13 11 (4 11 v0) (4 11 (5 (5 (5 v0 v1) v2) v3)) (8 v1))"},
		{"(quote n)", "v0"}, {"(splice n)", "v0"}, {"(quote (splice (quote (fn x x))))", "(4 11 v0)"}, {"(splice (n k))", "(5 v0 v1)"}, {"(the Nat n)", "v0"}, {"(the Nat (the Int 3))", "(12 (12 (12 11)))"},
		{"(add n k)", "(26/0 v0 v1)"}, {"(sub n k)", "(26/1 v0 v1)"}, {"(mul n k)", "(26/2 v0 v1)"}, {"(div n 0)", "(26/3 v0 11)"}, {"(less n 41)", "(26/4 v0 i41)"}, {"(if n k 1)", "(27 v0 v1 (12 11))"}, {"(let (x k) (x n))", "(28 v1 (5 v0 v1))"}, {"(let (k k) k)", "(28 v1 v0)"}, {"(fix (x Int) (x n))", "(29 11 (5 v0 v1))"}, {"(fix (n n) n)", "(29 11 v0)"},
		{"(n k)", "(5 v0 v1)"}, {"(n k 1 n)", "(5 (5 (5 v0 v1) (12 11)) v0)"}, {"((n k) n)", "(5 (5 v0 v1) v0)"}, {"((fn x x) (k n))", "(5 (4 11 v0) (5 v1 v0))"}, {"((quote n) k)", "(5 v0 v1)"}, {"((the zz n) (suc k))", "(5 v0 (12 v1))"}, {"(n (n (n n)))", "(5 v0 (5 v0 (5 v0 v0)))"}, {"((pair n k) U2)", "(5 (7 11 v0 v1) U2)"},
	})
}

// P902: what is not looked at: any form may stand there.
func TestWhatIsNotLookedAt(t *testing.T) {
	for _, a := range []string{"Nat", "zz", "fn", "def", "5", "-1", "()", "(zz)", "(1 2)", "(fn)", "(fn (1 2) zz)", "(fn zero zz)", "(the zz)", "(rec (zero zz) 1)", "(def n n)", "(() ())", "(x zz)", "(pi (x U2) zz)"} {
		at := func(s string) string { return strings.ReplaceAll(s, "%", a) }
		says(t, [][2]string{{at("(the % k)"), "v1"}, {at("(fn (x %) x)"), "(4 11 v0)"}, {at("(fix (x %) (x n))"), "(29 11 (5 v0 v1))"}, {at("(rec (x %) n (m h h) k)"), "(13 11 v0 v0 v1)"}, {at("(pair (the % n) (fn (x %) (fix (y %) (the % x))))"), "(7 11 v0 (4 11 (29 11 v1)))"}, {at("((the % (fn (x %) k)) (quote (the % 1)))"), "(5 (4 11 v2) (12 11))"}})
		// what stands beside it is
		refuses(t, api.ErrName, at("(the % zz)"), at("(fn (x %) zz)"), at("(fix (x %) zz)"), at("(rec (x %) zz (m h h) k)"), at("(rec (x %) n (m h zz) k)"), at("(rec (x %) n (m h h) zz)"))
		refuses(t, api.ErrForm, at("(the % ())"), at("(fn (zero %) n)"), at("(fn (1 %) n)"), at("(fn ((x %) %) n)"), at("(fix (fn %) n)"), at("(fix (-1 %) n)"), at("(rec (Nat %) n (m h h) k)"), at("(rec (1 %) n (m h h) k)"), at("(rec ((x) %) n (m h h) k)"), at("(the % % n)"), at("(fn (x % %) n)"))
	}
}

// P902: types that are looked at.
func TestTypesThatAreLookedAt(t *testing.T) {
	for _, s := range []string{"(pi (x %) n)", "(sig (x %) n)", "(-> % n)", "(* % n)", "(-> n %)", "(* n %)", "(pi (x n) %)", "(sig (x n) %)", "(lift %)"} {
		refuses(t, api.ErrName, strings.ReplaceAll(s, "%", "zz"))
		refuses(t, api.ErrForm, strings.ReplaceAll(s, "%", "()"), strings.ReplaceAll(s, "%", "(Nat n)"), strings.ReplaceAll(s, "%", "def"))
	}
}

// P902: which error comes where several apply: that of the whole list, then its parts' one by one.
func TestOrderOfErrors(t *testing.T) {
	// any form may stand at each %
	for _, s := range []string{"(pi (x %) %)", "(sig (x %) %)", "(-> % %)", "(* % %)", "(pair % %)", "(rec (x zz) % (m h %) %)", "(add % %)", "(sub % %)", "(mul % %)", "(div % %)", "(less % %)", "(if % % %)", "(let (x %) %)", "(n % % %)", "((n %) %)", "((fn x %) %)", "((suc %) (fst %))", "(pair (quote %) (the () %))"} {
		between := strings.Split(s, "%")
		for at := range between[1:] {
			for behind := at + 1; behind < len(between)-1; behind++ {
				for _, first := range []struct {
					s    string
					want api.Errno
				}{{"zz", api.ErrName}, {"()", api.ErrForm}, {"(fst zz)", api.ErrName}, {"(fst zz zz)", api.ErrForm}, {"fn", api.ErrForm}} {
					for _, second := range []string{"zz", "()", "def", "(n zz)", "(1 zz)"} {
						var w strings.Builder
						for k, part := range between {
							w.WriteString(part)
							switch {
							case k == at:
								w.WriteString(first.s)
							case k == behind:
								w.WriteString(second)
							case k < len(between)-1:
								w.WriteString("n")
							}
						}
						refuses(t, first.want, w.String())
					}
				}
			}
		}
	}
	refuses(t, api.ErrForm, "(fst zz zz)", "(fn (1 n) zz)", "(fn zero zz)", "(pi (zero zz) zz)", "(rec (x zz) zz (1 h zz) zz)", "(rec (x zz) zz (m h) zz)", "(let (x zz zz) zz)", "(if zz zz)", "(zz)", "(5 zz)", "(def zz zz)", "(Nat zz)", "(add zz)", "(n () zz)", "(the zz)")
	refuses(t, api.ErrName, "(zz ())", "((zz n) ())", "(let (x zz) ())", "(pair zz fn)")
}

// P902: lists of other lengths, of each row.
func TestListsOfOtherLengths(t *testing.T) {
	for _, row := range sayings() {
		f := pattern(row.list)
		for n := range len(f.L) + 3 {
			var l []api.Form
			for k := range n {
				l = append(l, f.L[min(k, len(f.L)-1)])
			}
			_, e := Form(nil, api.Form{Kind: api.FList, L: l})
			if n != len(f.L) && e != api.ErrForm || n == len(f.L) && e != api.ErrName {
				t.Errorf("%s: of %d: %v", row.list, n, e)
			}
		}
	}
	refuses(t, api.ErrForm, "()", "(n)", "(1)", "(1 n)", "(-1 n k)", "((n))", "(())", "(() n)", "(zero)", "(zero n)", "(U0 n)", "(U1 n)", "(U2 n)", "(Nat n)", "(Ty n)", "(Int n)", "(def n)", "(def n n)", "(def n n n)", "(fn)", "((1 n) k)", "((zero n) k)")
}

// P902: where a name must stand, no word may, nor a number, a list.
func TestNamesThatAreNone(t *testing.T) {
	for _, w := range append(strings.Fields(words8), "1", "-1", "()", "(x)", "((x n))", "(x n n)") {
		at := func(s string) string { return strings.ReplaceAll(s, "%", w) }
		refuses(t, api.ErrForm, at("(fn (% n) n)"), at("(fn % n)"), at("(pi (% n) n)"), at("(sig (% n) n)"), at("(rec (% n) n (m h n) n)"), at("(rec (x n) n (% h n) n)"), at("(rec (x n) n (m % n) n)"), at("(let (% n) n)"), at("(fix (% n) n)"), at("(pi % n)"), at("(sig % n)"), at("(rec % n (m h n) n)"), at("(let % n)"), at("(fix % n)"))
		if w != "(x n n)" {
			refuses(t, api.ErrForm, at("(rec (x n) n % n)"))
		}
	}
	refuses(t, api.ErrForm, "(pi x n)", "(sig x n)", "(rec x n (m h n) n)", "(let x n)", "(fix x n)", "(rec (x n) n m n)", "(rec (x n) n (m h) n)", "(rec (x n) n (m h n n) n)", "(rec (x n) n ((m) h n) n)")
}

// P902: terms of more nodes, or deeper, than term.Check allows.
func TestGreatForms(t *testing.T) {
	l := []api.Form{{Kind: api.FName, S: "n"}}
	for len(l) < 1<<16-1 {
		l = append(l, api.Form{Kind: api.FNum, N: 40})
	}
	f := api.Form{Kind: api.FList, L: l} // 2^16 forms in all
	for range 2 {
		x, e := Form([]string{"n"}, f)
		if e != api.OK || nodes(x) != 1+(len(l)-1)*42 {
			t.Fatalf("%d nodes, %v", nodes(x), e)
		}
		deep := 0
		for ; x.Op == api.App; deep++ {
			if !same(x.Kids[1], num(40)) {
				t.Fatalf("%d: %s", deep, short(x.Kids[1]))
			}
			x = x.Kids[0]
		}
		if deep != len(l)-1 || !same(x, v(0)) {
			t.Errorf("%d deep, %s", deep, short(x))
		}
	}
	l[len(l)-1] = api.Form{Kind: api.FName, S: "zz"}
	if x, e := Form([]string{"n"}, f); e != api.ErrName || !empty(x) {
		t.Errorf("%v", e)
	}
	// below types of code, which shift it all, as deep as lists may be
	wide := strings.Repeat(" 40", 400)
	s := "(k" + wide + ")"
	for range 29 {
		s = "(-> n " + s + ")"
	}
	x, e := Form(room(), read(t, s))
	for n := range 29 {
		if x.Op != api.Pi || !same(x.Kids[0], v(n)) {
			t.Fatalf("%d: %s, %v", n, short(x), e)
		}
		x = x.Kids[1]
	}
	for x.Op == api.App {
		x = x.Kids[0]
	}
	if !same(x, v(30)) {
		t.Errorf("%s", short(x))
	}
	// 30 deep, and no deeper; a term of more than 120
	says(t, [][2]string{{strings.Repeat("(suc ", 30) + "40" + strings.Repeat(")", 30), term.Text(num(70))}, {"(n" + strings.Repeat(" n", 500) + ")", strings.Repeat("(5 ", 500) + "v0" + strings.Repeat(" v0)", 500)}})
	deep := api.Form{Kind: api.FList, L: []api.Form{{Kind: api.FName, S: "suc"}, read(t, strings.Repeat("(suc ", 30)+"40"+strings.Repeat(")", 30))}}
	if x, e := Form(nil, deep); e != forms.Check(deep) || e != api.ErrDeep || !empty(x) {
		t.Errorf("%s, %v", short(x), e)
	}
	if x, e := Form(nil, api.Form{Kind: api.FNum, N: math.MaxInt}); e != api.ErrForm || !empty(x) {
		t.Errorf("%s, %v", short(x), e)
	}
}
