package erase

import (
	"reflect"
	"slices"
	"strings"
	"sync"
	"testing"

	"thyrsus/api"
	"thyrsus/term"
)

// P1: what is no term is taken, and nothing is told of it.
func TestTermsThatAreNone(t *testing.T) {
	shared := v(0)
	for range 60 {
		shared = of(api.TFun, shared, shared)
	}
	l := []api.Tm{{}, shared, nested(1<<17, api.Quo, v(0)), nested(120, api.Spl, v(0)), v(-1), v(3001), {Op: api.U, N: 3}, {Op: api.OPrim, N: 5, Kids: []api.Tm{v(0), v(1)}}, {Op: api.Nat, N: 1}, of(api.App, make([]api.Tm, 3000)...), of(31), of(-1), of(1 << 40), {N: 7}, of(api.Quo, of(77))}
	for op := -1; op <= api.Spl+1; op++ {
		for times := 1; times < 5; times++ {
			self := make([]api.Tm, times)
			for k := range self {
				self[k] = of(op, self...)
				self[k].Kids = self
			}
			l = append(l, of(op, self...))
		}
		for n := range 6 {
			row := slices.Repeat([]api.Tm{v(0)}, n)
			l = append(l, of(op, make([]api.Tm, n)...))
			if op < api.Var || op > api.Spl || kids(op) != n {
				l = append(l, of(op, row...), of(api.OSnd, of(op, row...)))
			}
		}
	}
	for _, x := range l {
		if term.Check(x) == api.OK {
			continue // of no kids
		}
		if got := Term(x); !empty(got) {
			t.Errorf("%d, %d, %d kids: %s", x.Op, x.N, len(x.Kids), short(got))
		}
	}
}

// formsThatAreNone are refused by forms.Check, or have more than 2^16 forms.
func formsThatAreNone() []api.Form {
	self := make([]api.Form, 3)
	for k := range self {
		self[k] = api.Form{Kind: api.FList, L: self}
	}
	self[0] = api.Form{Kind: api.FName, S: "->"}
	shared, deep := api.Form{Kind: api.FNum, N: 1}, api.Form{Kind: api.FNum}
	for range 28 {
		shared = api.Form{Kind: api.FList, L: []api.Form{{Kind: api.FName, S: "*"}, shared, shared}}
	}
	for range 1 << 17 {
		deep = api.Form{Kind: api.FList, L: []api.Form{{Kind: api.FName, S: "suc"}, deep}}
	}
	return []api.Form{{}, {Kind: 4}, {Kind: -1}, {Kind: api.FName}, {Kind: api.FName, S: "1a"}, {Kind: api.FName, S: "a b"}, {Kind: api.FName, S: "\xff"}, {Kind: api.FName, S: strings.Repeat("a", 21)},
		{Kind: api.FNum, N: 1<<62 + 1}, {Kind: api.FNum, N: -1<<62 - 1}, self[1], shared, deep, {Kind: api.FList, L: make([]api.Form, 100)}, {Kind: api.FList, L: make([]api.Form, 1<<20)}}
}

// P1: forms that are none, wherever they stand; names that are none.
func TestFormsThatAreNone(t *testing.T) {
	name := func(s string) api.Form { return api.Form{Kind: api.FName, S: s} }
	list := func(l ...api.Form) api.Form { return api.Form{Kind: api.FList, L: l} }
	names := []string{"", "1a", "n", "a b", "\xff", "zero", strings.Repeat("a", 21), "(", "n"}
	for _, f := range formsThatAreNone() {
		for _, g := range []api.Form{f, list(f, f), list(name("fn"), f, f), list(name("fn"), list(name("x"), f), f), list(name("the"), f, name("n")), list(name("n"), f), list(name("->"), name("n"), f), list(name("rec"), f, f, f, f), list(name("quote"), f)} {
			if x, e := Form(names, g); e != api.ErrForm && e != api.ErrDeep || !empty(x) {
				t.Errorf("%s, %v", short(x), e)
			}
		}
	}
	for _, x := range []struct {
		s, want string
	}{{"n", "v0"}, {"zero", "11"}, {"(-> n (-> n n))", "(3 v0 (3 v1 v2))"}, {"(fn zero_ n)", "(4 11 v1)"}} {
		if y, e := Form(names, read(t, x.s)); e != api.OK || term.Text(y) != x.want {
			t.Errorf("%s: %s, %v", x.s, short(y), e)
		}
	}
	// fields that a kind does not have are not looked at
	odd := list(api.Form{Kind: api.FName, S: "suc", N: 3, L: []api.Form{{}}}, api.Form{Kind: api.FNum, N: 1, S: "zero", L: []api.Form{{}}})
	odd.S, odd.N = "zero", 7
	if x, e := Form(nil, odd); e != api.OK || term.Text(x) != "(12 (12 11))" {
		t.Errorf("%s, %v", short(x), e)
	}
	odd.L[0] = api.Form{Kind: api.FList, S: "suc", L: []api.Form{name("quote"), name("n")}}
	if x, e := Form([]string{"n"}, odd); e != api.OK || term.Text(x) != "(5 v0 (12 11))" {
		t.Errorf("%s, %v", short(x), e)
	}
}

// spared is a copy, each list with spare room that is filled with marks; opened one of all
// that a list has room for.
func spared(x api.Tm) api.Tm {
	l := []api.Tm{v(77), v(78), v(79)}
	for _, kid := range slices.Backward(x.Kids) {
		l = append([]api.Tm{spared(kid)}, l...)
	}
	x.Kids = l[:len(x.Kids)]
	return x
}

func sparedForm(f api.Form) api.Form {
	mark := api.Form{Kind: api.FName, S: "mark"}
	l := []api.Form{mark, mark, mark}
	for _, part := range slices.Backward(f.L) {
		l = append([]api.Form{sparedForm(part)}, l...)
	}
	f.L = l[:len(f.L)]
	return f
}

func opened(x api.Tm) api.Tm {
	x.Kids = slices.Clone(x.Kids[:cap(x.Kids)])
	for k := range x.Kids {
		x.Kids[k] = opened(x.Kids[k])
	}
	return x
}

func openedForm(f api.Form) api.Form {
	f.L = slices.Clone(f.L[:cap(f.L)])
	for k := range f.L {
		f.L[k] = openedForm(f.L[k])
	}
	return f
}

// terms and forms of all kinds.
func someTerms() []api.Tm {
	l := []api.Tm{of(api.Quo, of(api.Spl, of(api.App, v(0), v(1)))), of(api.Quo, of(api.Pi, v(0), v(1))), nested(20, api.TFun, of(api.OPair, v(0), i(3)), of(api.TPro, v(0), v(1)))}
	for seed := range uint64(400) {
		d := &die{seed + 5000}
		if x := d.anyTerm(d.of(6), 0); term.Check(x) == api.OK {
			l = append(l, x)
		}
	}
	return l
}

func someForms(t *testing.T) []api.Form {
	var l []api.Form
	for _, s := range append(texts(), typed()...) {
		l = append(l, read(t, s))
	}
	d := &die{6000}
	for k := range 400 {
		l = append(l, d.changed(l[k%100], l))
	}
	return l
}

// P2: what is handed in stays as it is, its spare room too; and that matters to no answer.
func TestWhatIsHandedInStays(t *testing.T) {
	for _, x := range someTerms() {
		want, y := Term(x), spared(x)
		kept := opened(y)
		if got := Term(y); !same(got, want) || !reflect.DeepEqual(opened(y), kept) {
			t.Errorf("%s: changed, or %s", short(x), short(got))
		}
	}
	for _, f := range someForms(t) {
		names := []string{"n", "k", "x", "mark", "mark", "zz"}
		want, e := Form(names[:3:3], f)
		g := sparedForm(f)
		kept := openedForm(g)
		got, e2 := Form(names[:3], g)
		if e != e2 || !same(got, want) || !reflect.DeepEqual(openedForm(g), kept) || !slices.Equal(names, []string{"n", "k", "x", "mark", "mark", "zz"}) {
			t.Errorf("changed, or %s, %v", short(got), e2)
		}
	}
}

// lists gathers where the lists of a term stand; it tells whether one was met before.
func lists(x api.Tm, seen map[*api.Tm]bool) bool {
	twice := false
	for k := range x.Kids[:cap(x.Kids)] {
		at := &x.Kids[:cap(x.Kids)][k]
		twice, seen[at] = twice || seen[at], true
	}
	for _, kid := range x.Kids {
		twice = lists(kid, seen) || twice
	}
	return twice
}

// P2: answers are new, and no two of their lists are the same.
func TestAnswersAreNew(t *testing.T) {
	for _, x := range someTerms() {
		seen := map[*api.Tm]bool{}
		lists(x, seen)
		if lists(Term(x), seen) {
			t.Errorf("%s: shared", short(x))
		}
	}
	pair := of(api.OPair, v(0), v(1))
	l := []api.Tm{pair, pair}
	if lists(Term(of(api.TPro, l...)), map[*api.Tm]bool{&l[0]: true, &l[1]: true, &pair.Kids[0]: true}) {
		t.Error("what stands twice: shared")
	}
	for _, f := range someForms(t) {
		seen := map[*api.Tm]bool{}
		x, _ := Form(room(), f)
		y, _ := Form(room(), f)
		if lists(x, seen) || lists(y, seen) {
			t.Errorf("%s: shared", short(x))
		}
	}
}

// P2, P3: nothing is kept: others are answered anew.
func TestNothingIsKept(t *testing.T) {
	names, f := room(), read(t, "(fn x (pair (-> n k) (x 2)))")
	x := tm(t, "(20 15 (22 (16 v1 v2) i1))")
	for range 4 {
		y, e := Form(names, f)
		if term.Text(y) != "(4 11 (7 11 (3 v1 v3) (5 v0 (12 (12 11)))))" || e != api.OK {
			t.Fatalf("%s, %v", short(y), e)
		}
		y.Kids[1].Kids[1].Kids[0] = v(9)
		names[2], f.L[1].S = "m", "n"
		if y, e := Form(names, f); e != api.ErrName || !empty(y) {
			t.Fatalf("%s, %v", short(y), e)
		}
		names[2], f.L[1].S = "n", "x"
		z := Term(x)
		if term.Text(z) != "(4 11 (7 11 (3 v1 v3) (12 11)))" {
			t.Fatalf("%s", short(z))
		}
		z.Kids[1].Kids[1].Kids[0] = v(9)
		x.Kids[1].Kids[1].N = 0
		if term.Text(Term(x)) != "(4 11 (7 11 (3 v1 v3) 11))" {
			t.Fatalf("%s", short(Term(x)))
		}
		x.Kids[1].Kids[1].N = 1
	}
}

// P3: the same calls answer the same, side by side too.
func TestSideBySide(t *testing.T) {
	all, fs := someTerms(), someForms(t)
	var group sync.WaitGroup
	for range 4 {
		group.Go(func() {
			for _, x := range all {
				if !same(Term(x), Term(x)) {
					t.Errorf("%s: not the same", short(x))
				}
			}
			for _, f := range fs {
				x, e := Form(room(), f)
				if y, e2 := Form(room(), f); e != e2 || !same(x, y) {
					t.Errorf("%s: not the same", short(x))
				}
			}
		})
	}
	group.Wait()
}
