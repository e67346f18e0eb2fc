package erase

import (
	"math"
	"testing"

	"thyrsus/api"
	"thyrsus/term"
)

// strips checks what Term tells of terms, both as texts.
func strips(t *testing.T, rows [][2]string) {
	t.Helper()
	for _, x := range rows {
		y := tm(t, x[0])
		if e := term.Check(y); e != api.OK {
			t.Fatalf("%s: %v", x[0], e)
		}
		if got := term.Text(Term(y)); got != x[1] {
			t.Errorf("%s: %s, not %s", x[0], got, x[1])
		}
		// and what is told has nothing more to take away
		if got := term.Text(Term(tm(t, x[1]))); got != x[1] {
			t.Errorf("%s: %s", x[1], got)
		}
	}
}

// P901: what was put in.
func TestWhatIsTakenAway(t *testing.T) {
	strips(t, [][2]string{
		{"(19 v0)", "v0"}, {"(30 v0)", "v0"}, {"(19 (30 v3))", "v3"}, {"(30 (19 v3))", "v3"}, {"(19 (19 (30 (30 (30 (19 15))))))", "15"}, {"(19 (20 15 (30 (19 v0))))", "(4 11 v0)"}, {"(30 (5 v1 (19 v0)))", "(5 v1 v0)"}, {"(19 (30 i2))", "(12 (12 11))"},
		{"(4 10 v0)", "(4 11 v0)"}, {"(4 (3 10 10) (4 U0 (5 v1 v0)))", "(4 11 (4 11 (5 v1 v0)))"}, {"(4 v5 v6)", "(4 11 v6)"}, {"(20 15 v0)", "(4 11 v0)"}, {"(20 v4 (20 v5 v6))", "(4 11 (4 11 v6))"}, {"(29 15 v0)", "(29 11 v0)"}, {"(29 v1 (29 v2 v3))", "(29 11 (29 11 v3))"},
		{"(7 (6 10 10) v0 v1)", "(7 11 v0 v1)"}, {"(7 v3 (7 v4 v0 v1) (7 v5 v2 v3))", "(7 11 (7 11 v0 v1) (7 11 v2 v3))"}, {"(22 v0 v1)", "(7 11 v0 v1)"}, {"(22 (22 v0 v1) (30 v2))", "(7 11 (7 11 v0 v1) v2)"},
		{"(13 10 v0 v1 v2)", "(13 11 v0 v1 v2)"}, {"(13 (5 v3 v0) 11 (12 v0) (13 U0 10 v1 v0))", "(13 11 11 (12 v0) (13 11 10 v1 v0))"},
		{"(21 v1 v0)", "(5 v1 v0)"}, {"(21 (21 v2 v1) (30 v0))", "(5 (5 v2 v1) v0)"}, {"(23 v1)", "(8 v1)"}, {"(24 v1)", "(9 v1)"}, {"(23 (24 (22 v0 (22 v1 v2))))", "(8 (9 (7 11 v0 (7 11 v1 v2))))"},
		// types are not looked at: what is in them is gone, whatever it is
		{"(4 (16 15 15) v0)", "(4 11 v0)"}, {"(20 (30 i41) (19 v0))", "(4 11 v0)"}, {"(29 (16 v0 i9) v1)", "(29 11 v1)"}, {"(7 (4 10 v0) (30 v0) i1)", "(7 11 v0 (12 11))"}, {"(13 (22 v1 v0) i0 (19 v1) (30 v2))", "(13 11 11 v1 v2)"},
	})
}

// P901: types of object code have a variable then.
func TestTypesOfCode(t *testing.T) {
	strips(t, [][2]string{
		{"(16 15 15)", "(3 15 15)"}, {"(17 15 15)", "(6 15 15)"}, {"(16 v0 v0)", "(3 v0 v1)"}, {"(17 v3 v2)", "(6 v3 v3)"}, {"(16 (16 v0 v1) v2)", "(3 (3 v0 v2) v3)"}, {"(16 v0 (16 v1 (16 v2 v3)))", "(3 v0 (3 v2 (3 v4 v6)))"}, {"(17 v0 (16 v0 (17 v0 v0)))", "(6 v0 (3 v1 (6 v2 v3)))"},
		{"(17 (17 (17 v0 v1) v2) v3)", "(6 (6 (6 v0 v2) v3) v4)"}, {"(16 (17 v0 v0) (17 v0 v0))", "(3 (6 v0 v1) (6 v1 v2))"},
		// below binders, and with binders in them
		{"(4 14 (16 v0 v0))", "(4 11 (3 v0 v1))"}, {"(4 14 (16 v1 v1))", "(4 11 (3 v1 v2))"}, {"(3 14 (18 (16 v0 v4)))", "(3 14 (18 (3 v0 v5)))"}, {"(16 15 (5 (4 14 v0) v0))", "(3 15 (5 (4 11 v0) v1))"}, {"(16 15 (5 (4 14 v1) v0))", "(3 15 (5 (4 11 v2) v1))"},
		{"(16 15 (5 (4 14 (17 v0 v1)) v2))", "(3 15 (5 (4 11 (6 v0 v3)) v3))"}, {"(16 v0 (13 14 v0 (16 v0 v3) v1))", "(3 v0 (13 11 v1 (3 v0 v5) v2))"}, {"(16 v0 (13 14 v0 (16 v1 v2) v1))", "(3 v0 (13 11 v1 (3 v1 v4) v2))"}, {"(17 v0 (5 v1 (19 (20 v2 (28 v0 (30 v3))))))", "(6 v0 (5 v2 (4 11 (28 v0 v4))))"},
		{"(17 v0 (5 v1 (19 (29 v2 (20 v3 (21 v0 v2))))))", "(6 v0 (5 v2 (29 11 (4 11 (5 v0 v3)))))"}, {"(16 v0 (3 v1 (6 v2 (3 v0 v5))))", "(3 v0 (3 v2 (6 v3 (3 v0 v6))))"},
		// the types that programs have bind a variable as it is
		{"(3 v0 v0)", "(3 v0 v0)"}, {"(6 v1 (16 v0 v1))", "(6 v1 (3 v0 v2))"},
	})
	if got := term.Text(Term(tm(t, "(16 v3000 (17 v3000 v3000))"))); got != "(3 v3000 (6 v3001 v3002))" {
		t.Errorf("%s", got)
	}
}

// P901: numbers.
func TestNumbersOfCode(t *testing.T) {
	for n, want := range map[int]api.Tm{0: num(0), 1: num(1), 2: num(2), 39: num(39), 40: num(40), 41: i(41), 42: i(42), -1: i(-1), -40: i(-40), math.MaxInt: i(math.MaxInt), math.MinInt: i(math.MinInt), 1 << 32: i(1 << 32), 1<<32 + 1: i(1<<32 + 1)} {
		if got := Term(i(n)); !same(got, want) {
			t.Errorf("%d: %s", n, short(got))
		}
		if got := Term(of(api.OSnd, i(n))); !same(got, of(api.Snd, want)) {
			t.Errorf("%d: %s", n, short(got))
		}
	}
	strips(t, [][2]string{{"(22 i1 i41)", "(7 11 (12 11) i41)"}, {"(26/0 i0 i-1)", "(26/0 11 i-1)"}, {"(12 (12 11))", "(12 (12 11))"}, {"(28 i2 v0)", "(28 (12 (12 11)) v0)"}})
}

// P901: all other terms stay, what is in them does not.
func TestWhatStays(t *testing.T) {
	strips(t, [][2]string{
		{"v0", "v0"}, {"v3000", "v3000"}, {"U0", "U0"}, {"U1", "U1"}, {"U2", "U2"}, {"10", "10"}, {"11", "11"}, {"14", "14"}, {"15", "15"}, {"(12 v1)", "(12 v1)"}, {"(18 v1)", "(18 v1)"}, {"(8 v1)", "(8 v1)"}, {"(9 v1)", "(9 v1)"},
		{"(3 10 v0)", "(3 10 v0)"}, {"(6 U1 v3)", "(6 U1 v3)"}, {"(5 v0 v1)", "(5 v0 v1)"}, {"(26/0 v0 v1)", "(26/0 v0 v1)"}, {"(26/1 v0 v1)", "(26/1 v0 v1)"}, {"(26/2 v0 v1)", "(26/2 v0 v1)"}, {"(26/3 v0 v1)", "(26/3 v0 v1)"}, {"(26/4 v0 v1)", "(26/4 v0 v1)"}, {"(27 v0 v1 v2)", "(27 v0 v1 v2)"}, {"(28 v0 v1)", "(28 v0 v1)"},
		{"(3 (19 v0) (30 v1))", "(3 v0 v1)"}, {"(6 (20 15 v0) (23 v1))", "(6 (4 11 v0) (8 v1))"}, {"(5 (19 v0) i1)", "(5 v0 (12 11))"}, {"(8 (30 v0))", "(8 v0)"}, {"(9 (22 v0 v1))", "(9 (7 11 v0 v1))"}, {"(12 (19 v0))", "(12 v0)"}, {"(18 (16 v0 v0))", "(18 (3 v0 v1))"},
		{"(26/3 (30 v0) i0)", "(26/3 v0 11)"}, {"(27 (30 v0) (24 v1) (19 v2))", "(27 v0 (9 v1) v2)"}, {"(28 (20 15 v0) (21 v0 v1))", "(28 (4 11 v0) (5 v0 v1))"},
	})
}

// rewritten is a term with one step inside out, as P901 names it; false: there is none.
func rewritten(x api.Tm) (api.Tm, bool) {
	for k, kid := range x.Kids {
		if y, ok := rewritten(kid); ok {
			x.Kids = append([]api.Tm{}, x.Kids...)
			x.Kids[k] = y
			return x, true
		}
	}
	typed := func(op int) bool {
		return op == api.Lam || op == api.OLam || op == api.OFix || op == api.Pair || op == api.Rec
	}
	switch renamed := map[int]int{api.OLam: api.Lam, api.OApp: api.App, api.OFst: api.Fst, api.OSnd: api.Snd}[x.Op]; {
	case x.Op == api.Quo || x.Op == api.Spl:
		return x.Kids[0], true
	case typed(x.Op) && x.Kids[0].Op != api.Zero:
		x.Kids = append([]api.Tm{of(api.Zero)}, x.Kids[1:]...)
		return x, true
	case renamed != 0:
		return of(renamed, x.Kids...), true
	case x.Op == api.OPair:
		return of(api.Pair, of(api.Zero), x.Kids[0], x.Kids[1]), true
	case x.Op == api.TFun:
		return of(api.Pi, x.Kids[0], term.Shift(x.Kids[1], 1, 0)), true
	case x.Op == api.TPro:
		return of(api.Sig, x.Kids[0], term.Shift(x.Kids[1], 1, 0)), true
	case x.Op == api.OInt && x.N >= 0 && x.N <= 40:
		return num(x.N), true
	}
	return x, false
}

// P901: any term, against as many single steps as there are.
func TestAnyTerms(t *testing.T) {
	seen := map[int]int{}
	for seed := range uint64(3000) {
		d := &die{seed + 1}
		x := d.anyTerm(d.of(7), 0)
		if term.Check(x) != api.OK || term.Size(x) > 120 {
			continue
		}
		seen[x.Op]++
		want := x
		for ok := true; ok; want, ok = rewritten(want) {
		}
		if got := Term(x); !same(got, want) {
			t.Errorf("%s: %s, not %s", short(x), short(got), short(want))
		}
		if got := Term(want); term.Check(want) == api.OK && !same(got, want) {
			t.Errorf("%s: %s", short(want), short(got))
		}
	}
	for op := api.Var; op <= api.Spl; op++ {
		if seen[op] < 10 {
			t.Errorf("of %d: only %d", op, seen[op])
		}
	}
}

// P901: terms as great, and as deep, as they may be; what is told may be greater.
func TestGreatTerms(t *testing.T) {
	var tree func(n int) api.Tm
	tree = func(n int) api.Tm {
		if n == 1 {
			return i(40)
		}
		return of(api.OPair, tree(n/2), tree(n-n/2))
	}
	if got := nodes(Term(tree(1500))); got != 1500*41+1499*2 {
		t.Errorf("%d nodes", got)
	}
	for _, x := range []struct{ t, want api.Tm }{
		{nested(119, api.Quo, v(3000)), v(3000)}, {nested(119, api.Spl, i(40)), num(40)}, {nested(119, api.OSnd, i(40)), nested(119, api.Snd, num(40))},
		{nested(119, api.TFun, v(3000), of(api.TInt)), nested(119, api.Pi, v(3119), of(api.TInt))}, {nested(119, api.TPro, v(0), of(api.Nat)), nested(119, api.Sig, v(119), of(api.Nat))},
		{nested(119, api.OLam, v(118), of(api.TInt)), nested(119, api.Lam, v(118), of(api.Zero))}, {nested(119, api.OLam, v(119), of(api.TInt)), nested(119, api.Lam, v(119), of(api.Zero))},
	} {
		if e := term.Check(x.t); e != api.OK {
			t.Fatalf("%v", e)
		}
		if got := Term(x.t); !same(got, x.want) {
			t.Errorf("%s: %s, not %s", short(x.t), short(got), short(x.want))
		}
	}
	// each of them below all that are ahead of it
	x, want := of(api.TInt), of(api.TInt)
	for n := range 119 {
		x, want = of(api.TFun, v(118-n), x), of(api.Pi, v(118-n+118-n), want)
	}
	if got := Term(x); !same(got, want) {
		t.Errorf("%s, not %s", short(got), short(want))
	}
}
