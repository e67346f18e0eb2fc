package elab

import (
	"reflect"
	"slices"
	"strings"
	"sync"
	"testing"

	"thyrsus/api"
	"thyrsus/term"
)

// ends calls both, of whatever there is: each ends, without a panic, with zero values beside an error.
func ends(t *testing.T, e Env, f api.Form, stage int, a api.Tm) {
	t.Helper()
	x, at, is, err := Infer(e, f)
	if err != api.OK && (!empty(x) || at != 0 || !empty(is)) {
		t.Errorf("Infer: %s, %d, %s beside %v", short(x), at, short(is), err)
	}
	y, err := Check(e, f, stage, a)
	if err != api.OK && !empty(y) {
		t.Errorf("Check: %s beside %v", short(y), err)
	}
}

// endless is a node that holds itself, so many times.
func endless(op, times int) api.Tm {
	l := make([]api.Tm, times)
	for k := range l {
		l[k] = api.Tm{Op: op, Kids: l}
	}
	return l[0]
}

// noTerms are what may be no terms.
func noTerms() []api.Tm {
	shared, lams := v(0), v(0)
	for range 60 {
		shared = app(shared, shared)
	}
	for range 1 << 12 {
		lams = lam(nat(), lams)
	}
	l := []api.Tm{{}, shared, lams, v(-1), v(3001), v(1 << 40), u(-1), u(3), numbered(api.OPrim, 9, i(1), i(1)), numbered(api.Nat, 1), of(api.App, make([]api.Tm, 1<<12)...), of(77), of(-1)}
	for _, op := range []int{api.Var, api.U, api.Pi, api.Lam, api.App, api.Sig, api.Pair, api.Nat, api.Ty, api.TInt, api.TFun, api.TPro, api.Lift, api.Quo, api.Spl, api.Rec} {
		for times := 1; times < 3; times++ {
			l = append(l, endless(op, times))
		}
		for kids := range 4 {
			l = append(l, of(op, make([]api.Tm, kids)...), of(op, slices.Repeat([]api.Tm{nat()}, kids)...))
		}
	}
	self := lam(nat(), app(v(0), v(0)))
	return append(l, app(self, self), pi(nat(), app(self, self)), lifted(app(self, self)), app(lam(nat(), of(api.Suc, app(v(0), v(0)))), lam(nat(), of(api.Suc, app(v(0), v(0))))))
}

// uses are forms that use the names x and d in each way.
func uses() []string {
	l := []string{"(fn k k)", "(fn (k Nat) k)", "(pair 1 2)", "(if 1 2 3)", "2", "41", "()", "Nat", "zz", "(fn k x)", "(fn k d)"}
	for _, x := range []string{"x", "d"} {
		for _, s := range []string{"%", "(% %)", "(% 1 2)", "(% (fn k k))", "(fst %)", "(snd %)", "(fst (snd %))", "(suc %)", "(lift %)", "(quote %)", "(splice %)", "(add % %)", "(if % % %)", "(let (y %) (pair y y))", "(fix (y %) y)", "(fix (y %) %)", "(the % %)", "(the % 1)", "(the % (fn k k))", "(the % (pair % 2))",
			"(fn (y %) y)", "(fn (y %) %)", "(fn (y Int) %)", "(fn (y Nat) %)", "(pi (y %) y)", "(pi (y %) Nat)", "(sig (y Nat) %)", "(-> % %)", "(* Int %)", "(-> Nat %)", "(rec (k %) % (a h h) %)", "(rec (k Nat) % (a h %) 1)", "(rec (k %) 1 (a h h) 1)", "(pair % %)", "(pair 1 %)", "(quote (pair % (quote %)))", "((the (pi (A U0) (-> A A)) (fn A (fn y y))) % %)"} {
			l = append(l, strings.ReplaceAll(s, "%", x))
		}
	}
	return l
}

// P1: variables and definitions of whatever types, at whatever stages; goals of whatever types.
func TestTypesThatAreNone(t *testing.T) {
	var l []api.Form
	for _, s := range uses() {
		l = append(l, read(t, s))
	}
	d := &die{91}
	bad := noTerms()
	for _, a := range bad {
		for _, f := range l {
			b := bad[d.of(len(bad))]
			stage := []int{0, 1, 1, 0, 2, -1}[d.of(6)]
			e := Env{}.with("x", stage, a).def("d", stage, b, a)
			if d.of(3) == 0 {
				e = e.def("d", 1-stage, num(1), a)
			}
			ends(t, e, f, []int{0, 1, 1, 0, 3, -7}[d.of(6)], []api.Tm{a, b, nat(), lifted(a), pi(a, b)}[d.of(5)])
		}
	}
}

// P1: forms that are none.
func TestFormsThatAreNone(t *testing.T) {
	cycle := make([]api.Form, 3)
	for k := range cycle {
		cycle[k] = api.Form{Kind: api.FList, L: cycle}
	}
	cycle[0] = api.Form{Kind: api.FName, S: "add"}
	self := make([]api.Form, 1)
	self[0] = api.Form{Kind: api.FList, L: self}
	shared := api.Form{Kind: api.FNum, N: 1}
	for range 28 {
		shared = api.Form{Kind: api.FList, L: []api.Form{{Kind: api.FName, S: "add"}, shared, shared}}
	}
	deep := api.Form{Kind: api.FNum}
	for range 1 << 18 {
		deep = api.Form{Kind: api.FList, L: []api.Form{{Kind: api.FName, S: "suc"}, deep}}
	}
	l := []api.Form{{}, {Kind: 4}, {Kind: -1}, {Kind: api.FName}, {Kind: api.FName, S: "1a"}, {Kind: api.FName, S: "a b"}, {Kind: api.FName, S: "("}, {Kind: api.FName, S: "\xff"}, {Kind: api.FName, S: strings.Repeat("a", 21)}, {Kind: api.FName, S: "12"},
		{Kind: api.FNum, N: 1<<62 + 1}, {Kind: api.FNum, N: -1<<62 - 1}, cycle[1], self[0], shared, deep, {Kind: api.FList, L: make([]api.Form, 100)}, {Kind: api.FList, L: make([]api.Form, 1<<20)}}
	wrap := func(s string, f api.Form) api.Form {
		return api.Form{Kind: api.FList, L: []api.Form{{Kind: api.FName, S: s}, f, f}}
	}
	for _, f := range l {
		for _, g := range []api.Form{f, wrap("fn", f), wrap("the", f), wrap("x", f), wrap("pair", f), {Kind: api.FList, L: []api.Form{f, f}}} {
			ends(t, room(), g, 1, nat())
			ends(t, Env{}, g, 0, whole())
			if _, _, _, err := Infer(room(), g); err != api.ErrForm && err != api.ErrDeep {
				t.Errorf("%v", err)
			}
		}
	}
	// fields that a kind does not have
	odd := api.Form{Kind: api.FList, S: "zero", N: 7, L: []api.Form{{Kind: api.FName, S: "suc", N: 3, L: []api.Form{{}}}, {Kind: api.FNum, N: 1, S: "zero", L: cycle}}}
	if x, _, _, err := Infer(Env{}, odd); err != api.OK || term.Text(x) != "(12 (12 11))" {
		t.Errorf("%s, %v", short(x), err)
	}
	odd.L[0] = api.Form{Kind: api.FList, S: "suc", L: []api.Form{{Kind: api.FName, S: "quote"}, {Kind: api.FName, S: "inc"}}}
	if x, _, _, err := Infer(room(), odd); err != api.OK || term.Text(x) != "(21 (30 (19 (20 15 (26/0 v0 i1)))) i1)" {
		t.Errorf("%s, %v", short(x), err)
	}
}

// P1: Envs whose Names and G are of other lengths; stages that are none.
func TestEnvsThatAreNone(t *testing.T) {
	e := room()
	for names := range 12 {
		for g := range 12 {
			f := Env{slices.Repeat([]string{"n"}, names), slices.Repeat(e.G[:1], g), e.Defs}
			for _, s := range []string{"n", "zz", "(fn k k)", "(suc n)", "(fn (n Nat) n)", "two"} {
				ends(t, f, read(t, s), 1, nat())
				if _, _, _, err := Infer(f, read(t, s)); names != g && err == api.OK {
					t.Errorf("%s: %d names, %d variables: accepted", s, names, g)
				}
			}
		}
	}
	for _, stage := range []int{2, -1, 7, 1 << 62} {
		for _, s := range uses() {
			for _, a := range []api.Tm{nat(), whole(), lifted(whole()), pi(nat(), nat()), fun(), sig(nat(), nat())} {
				f := Env{}.with("x", 0, whole()).def("d", 1, num(2), nat())
				ends(t, f, read(t, s), stage, a)
				if _, err := Check(f, read(t, s), stage, a); err == api.OK {
					t.Errorf("%s: stage %d: accepted", s, stage)
				}
			}
		}
	}
}

// spared is a copy of a term, each list with spare room that is filled with marks.
func spared(x api.Tm) api.Tm {
	l := make([]api.Tm, 0, len(x.Kids)+3)
	for _, kid := range x.Kids {
		l = append(l, spared(kid))
	}
	all := l[:cap(l)]
	for k := len(l); k < cap(l); k++ {
		all[k] = v(77)
	}
	x.Kids = l
	return x
}

func sparedForm(f api.Form) api.Form {
	l := make([]api.Form, 0, len(f.L)+3)
	for _, part := range f.L {
		l = append(l, sparedForm(part))
	}
	all := l[:cap(l)]
	for k := len(l); k < cap(l); k++ {
		all[k] = api.Form{Kind: api.FName, S: "mark"}
	}
	f.L = l
	return f
}

func sparedEnv(e Env) Env {
	var out Env
	out.Names = append(make([]string, 0, len(e.Names)+3), e.Names...)
	out.G = make([]api.Var1, 0, len(e.G)+3)
	for _, x := range e.G {
		out.G = append(out.G, api.Var1{Stage: x.Stage, T: spared(x.T)})
	}
	out.Defs = make([]Known, 0, len(e.Defs)+3)
	for _, d := range e.Defs {
		out.Defs = append(out.Defs, Known{d.Name, d.Stage, spared(d.T), spared(d.A)})
	}
	for k := range 3 {
		out.Names[:cap(out.Names)][len(e.Names)+k] = "mark"
		out.G[:cap(out.G)][len(e.G)+k] = api.Var1{Stage: 1, T: v(78)}
		out.Defs[:cap(out.Defs)][len(e.Defs)+k] = Known{Name: "mark", T: v(79)}
	}
	return out
}

// opened is a copy of what was handed in, the spare room of its lists as parts of them.
func opened(x api.Tm) api.Tm {
	x.Kids = slices.Clone(x.Kids[:cap(x.Kids)])
	for k := range x.Kids {
		x.Kids[k] = opened(x.Kids[k])
	}
	return x
}

func openedForm(f api.Form) api.Form {
	f.L = slices.Clone(f.L[:cap(f.L)])
	for k := range f.L {
		f.L[k] = openedForm(f.L[k])
	}
	return f
}

func openedEnv(e Env) Env {
	e = Env{slices.Clone(e.Names[:cap(e.Names)]), slices.Clone(e.G[:cap(e.G)]), slices.Clone(e.Defs[:cap(e.Defs)])}
	for k := range e.G {
		e.G[k].T = opened(e.G[k].T)
	}
	for k := range e.Defs {
		e.Defs[k].T, e.Defs[k].A = opened(e.Defs[k].T), opened(e.Defs[k].A)
	}
	return e
}

// samples are forms that may be told, and some that may not.
func samples(t *testing.T) []sample {
	var l []sample
	for _, s := range handMade() {
		l = append(l, sample{dependent(), s, 1, lifted(whole())}, sample{dependent(), s, 1, nat()}, sample{dependent(), s, 0, both()})
	}
	for seed := range uint64(150) {
		l = append(l, inferable(70000+seed), checkable(80000+seed))
	}
	return l
}

// P2: what is handed in stays as it is, its spare room too; and it matters to no answer.
func TestWhatIsHandedInStays(t *testing.T) {
	for _, s := range samples(t) {
		f := read(t, s.s)
		x, stage, a, err := Infer(s.e, f)
		y, err2 := Check(s.e, f, s.stage, s.a)
		e, g, b := sparedEnv(s.e), sparedForm(f), spared(s.a)
		keptE, keptG, keptB := openedEnv(e), openedForm(g), opened(b)
		x2, stage2, a2, err3 := Infer(e, g)
		y2, err4 := Check(e, g, s.stage, b)
		if stage != stage2 || err != err3 || err2 != err4 || !reflect.DeepEqual([]api.Tm{x, a, y}, []api.Tm{x2, a2, y2}) {
			t.Errorf("%s: other answers", s.s)
		}
		if !reflect.DeepEqual(openedEnv(e), keptE) || !reflect.DeepEqual(openedForm(g), keptG) || !reflect.DeepEqual(opened(b), keptB) {
			t.Errorf("%s: changed", s.s)
		}
	}
}

// lists gathers where the lists of a term stand; it tells whether one was met before.
func lists(x api.Tm, seen map[*api.Tm]bool) bool {
	twice := false
	if cap(x.Kids) > 0 {
		at := &x.Kids[:cap(x.Kids)][0]
		twice, seen[at] = seen[at], true
	}
	for _, kid := range x.Kids {
		if lists(kid, seen) {
			twice = true
		}
	}
	return twice
}

// handed are the lists of all that is handed in.
func handed(e Env, a api.Tm) map[*api.Tm]bool {
	seen := map[*api.Tm]bool{}
	lists(a, seen)
	for _, x := range e.G {
		lists(x.T, seen)
	}
	for _, d := range e.Defs {
		lists(d.T, seen)
		lists(d.A, seen)
	}
	return seen
}

// P2: answers are new, and no two of their lists are the same.
func TestAnswersAreNew(t *testing.T) {
	all := samples(t)
	for _, s := range []string{"inc", "c", "(pair inc inc)", "(pair c c)", "(let (y c) (pair y y))", "(if x inc inc)", "(the (-> Int Int) inc)", "(pair (fn (y (-> Int Int)) y) c)"} {
		all = append(all, sample{room(), s, 0, both()})
	}
	for _, x := range []asked{{"(fn y y)", 0, tFun(both(), both())}, {"(fn k k)", 1, pi(sig(nat(), nat()), sig(nat(), nat()))}, {"(fn k (pair k k))", 1, pi(lifted(whole()), sig(lifted(whole()), lifted(whole())))}, {"(pair (pair 1 2) (pair 3 4))", 1, sig(sig(nat(), nat()), sig(nat(), nat()))}, {"(fn y (fn z z))", 1, lifted(tFun(both(), tFun(both(), both())))}, {"inc", 1, lifted(fun())}, {"inc", 0, fun()}} {
		all = append(all, sample{room(), x.s, x.stage, x.a})
	}
	for _, s := range all {
		f := read(t, s.s)
		seen := handed(s.e, s.a)
		x, _, a, _ := Infer(s.e, f)
		if lists(x, seen) || lists(a, seen) {
			t.Errorf("%s: Infer: shared", s.s)
		}
		if y, _ := Check(s.e, f, s.stage, s.a); lists(y, seen) {
			t.Errorf("%s: Check: shared", s.s)
		}
	}
}

// P2, P3: nothing is kept: the same calls answer the same, and others anew.
func TestNothingIsKept(t *testing.T) {
	e, f := room(), read(t, "(fn (k (F n)) (pair k (inc x)))")
	g := pi(app(v(7), v(9)), sig(app(v(8), v(10)), lifted(whole())))
	f.L[1] = api.Form{Kind: api.FName, S: "k"}
	for range 5 {
		x, err := Check(e, f, 1, g)
		if want := "(4 (5 v7 v9) (7 (6 (5 v8 v10) (18 15)) v0 (19 (21 (20 15 (26/0 v0 i1)) v9))))"; err != api.OK || term.Text(x) != want {
			t.Errorf("%s, %v", short(x), err)
		}
		x.Kids[0].Kids[0].N = 99
		x.Kids[1].Kids[2].Kids[0].Kids[0].Kids[0] = fun()
		e.Defs[1].T.Kids[1].Kids[1] = i(5)
		infers(t, e, "inc", "(20 15 (26/0 v0 i5))", 0, "(16 15 15)")
		e.Defs[1].T.Kids[1].Kids[1] = i(1)
		e.Names[0], e.G[0].T = "m", u(0)
		refused(t, e, "n", api.ErrName)
		infers(t, e, "m", "v9", 1, "U0")
		e.Names[0], e.G[0].T = "n", nat()
		a := g.Kids[0].Kids[1]
		g.Kids[0].Kids[1] = num(1)
		if _, err := Check(e, f, 1, g); err != api.ErrType {
			t.Errorf("%v", err)
		}
		g.Kids[0].Kids[1] = a
	}
}

// P3: the same calls answer the same, side by side too.
func TestSideBySide(t *testing.T) {
	l := samples(t)
	var fs []api.Form
	for _, s := range l {
		fs = append(fs, read(t, s.s))
	}
	var group sync.WaitGroup
	for range 4 {
		group.Go(func() {
			for k, s := range l {
				x, stage, a, err := Infer(s.e, fs[k])
				y, stage2, b, err2 := Infer(s.e, fs[k])
				z, err3 := Check(s.e, fs[k], s.stage, s.a)
				w, err4 := Check(s.e, fs[k], s.stage, s.a)
				if stage != stage2 || err != err2 || err3 != err4 || !reflect.DeepEqual([]api.Tm{x, a, z}, []api.Tm{y, b, w}) {
					t.Errorf("%s: not the same", s.s)
				}
			}
		})
	}
	group.Wait()
}
