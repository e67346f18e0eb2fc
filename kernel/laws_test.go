package kernel

import (
	"slices"
	"testing"

	"thyrsus/api"
	"thyrsus/norm"
	"thyrsus/term"
)

// hasU2 tells whether U 2 is in a type: no universe has that.
func hasU2(a api.Tm) bool {
	return a.Op == api.U && a.N == 2 || slices.ContainsFunc(a.Kids, hasU2)
}

// isType checks that what is a term's type is one: of programs, or of object code.
func isType(t *testing.T, g ctx, stage int, a api.Tm) {
	t.Helper()
	u, e := Infer(g, 1, a)
	switch {
	case hasU2(a):
		if e != api.ErrLevel {
			t.Errorf("%s: %v", short(a), e)
		}
	case e != api.OK || u.Op != map[int]int{1: api.U, 0: api.Ty}[stage]:
		t.Errorf("%s: no type: %s, %v", short(a), short(u), e)
	}
	if n := normal(t, a); !term.Same(n, a) {
		t.Errorf("%s: not normal", short(a))
	}
}

// isOf checks that a term has a type, as both calls tell.
func isOf(t *testing.T, s sample, a api.Tm) {
	t.Helper()
	b, e := Infer(s.g, s.stage, s.x)
	if e != api.OK || !alike(a, b) {
		t.Errorf("%s: %s, %v, not %s", short(s.x), short(b), e, short(a))
	}
	checks(t, s.g, s.stage, s.x, a, api.OK)
	isType(t, s.g, s.stage, b)
}

// P701, P703: terms of plain types have those, whatever they are made of; so have their normal forms.
func TestPlainTypes(t *testing.T) {
	seen := 0
	for seed := range uint64(4000) {
		s, a, ok := plainSample(seed + 1)
		if !ok {
			continue
		}
		seen++
		b, e := Infer(s.g, s.stage, s.x)
		if e != api.OK || !term.Same(a, b) {
			t.Errorf("%s: %s, %v, not %s", short(s.x), short(b), e, short(a))
		}
		if n, e := norm.Normal(s.x); e == api.OK {
			isOf(t, sample{s.g, s.stage, n}, a)
		}
		for k := range s.g {
			isOf(t, sample{s.g, s.g[k].Stage, v(len(s.g) - 1 - k)}, term.Shift(normal(t, s.g[k].T), len(s.g)-k, 0))
		}
	}
	if seen < 3000 {
		t.Errorf("only %d", seen)
	}
}

// manySamples are terms that have a type, with it: hand-made ones, plain ones, and what is still of a type when a node is another one.
func manySamples() []sample {
	d := &die{17}
	var l []sample
	for k, s := range slices.Concat(handMade(), plainSamples(20001, 300)) {
		l = append(l, s)
		n := 100
		if k >= len(handMade()) {
			n = 8
		}
		for range n {
			other := s
			other.x = d.mutated(d.mutated(s.x))
			if _, e := Infer(other.g, other.stage, other.x); e == api.OK {
				l = append(l, other)
			}
		}
	}
	return l
}

// P703: the type of a term is a type, and its normal form has it.
func TestTypesAndNormalForms(t *testing.T) {
	l := manySamples()
	if len(l) < 1500 {
		t.Errorf("only %d", len(l))
	}
	for _, s := range l {
		a, e := Infer(s.g, s.stage, s.x)
		if e != api.OK {
			t.Fatalf("%s: %v", short(s.x), e)
		}
		isType(t, s.g, s.stage, a)
		if n, e := norm.Normal(s.x); e == api.OK && !hasU2(a) {
			isOf(t, sample{s.g, s.stage, n}, a)
		}
	}
}

// steps are all that one step makes of a term, at any of its nodes.
func steps(x api.Tm) []api.Tm {
	var l []api.Tm
	for k := range x.Kids {
		for _, y := range steps(x.Kids[k]) {
			l = append(l, replaced(x, k, y))
		}
	}
	var first api.Tm
	if len(x.Kids) > 0 {
		first = x.Kids[0]
	}
	switch {
	case x.Op == api.App && first.Op == api.Lam:
		l = append(l, term.Subst(first.Kids[1], 0, x.Kids[1]))
	case x.Op == api.Fst && first.Op == api.Pair:
		l = append(l, first.Kids[1])
	case x.Op == api.Snd && first.Op == api.Pair:
		l = append(l, first.Kids[2])
	case x.Op == api.Spl && first.Op == api.Quo, x.Op == api.Quo && first.Op == api.Spl:
		l = append(l, first.Kids[0])
	case x.Op == api.Rec && x.Kids[3].Op == api.Zero:
		l = append(l, x.Kids[1])
	case x.Op == api.Rec && x.Kids[3].Op == api.Suc:
		n := x.Kids[3].Kids[0]
		h := rec(x.Kids[0], x.Kids[1], x.Kids[2], n)
		l = append(l, term.Subst(term.Subst(x.Kids[2], 0, term.Shift(h, 1, 0)), 0, n))
	}
	return l
}

// P703: each step, wherever it stands, keeps the type.
func TestStepsKeepTypes(t *testing.T) {
	seen := 0
	for _, s := range manySamples() {
		a, _ := Infer(s.g, s.stage, s.x)
		if hasU2(a) || term.Size(s.x) > 150 {
			continue
		}
		for _, x := range steps(s.x) {
			if term.Check(x) != api.OK {
				continue
			}
			isOf(t, sample{s.g, s.stage, x}, a)
			seen++
		}
	}
	if seen < 1000 {
		t.Errorf("only %d", seen)
	}
}

// putIn puts u, a term in what is ahead of the variable n, in that one's place: in the term, in its type, in the context behind it.
func putIn(s sample, a api.Tm, n int, u api.Tm) (sample, api.Tm) {
	at := len(s.g) - 1 - n
	g := slices.Clone(s.g[:at])
	for k, x := range s.g[at+1:] {
		g = append(g, api.Var1{Stage: x.Stage, T: term.Subst(x.T, k, term.Shift(u, k, 0))})
	}
	u = term.Shift(u, n, 0)
	return sample{g, s.stage, term.Subst(s.x, n, u)}, term.Subst(a, n, u)
}

// someOf is a term of the type of a variable, among those ahead of it; false: none is at hand.
func someOf(t *testing.T, g ctx, at int, d *die) (api.Tm, bool) {
	t.Helper()
	a := normal(t, g[at].T)
	l := []api.Tm{zero(), add(num(1), num(2)), nat(), pi(nat(), nat()), u(0), i(5), plus(i(1), i(2)), whole(), tPro(whole(), whole()), quo(i(3)), quo(oPair(i(1), i(2))), oPair(i(1), i(2)), oLam(whole(), v(0)),
		quo(oLam(whole(), v(0))), lam(nat(), v(0)), lam(nat(), nat()), lam(nat(), of(api.Suc, v(0))), pairOf(sig(nat(), nat()), zero(), num(2)), lam(lift(whole()), whole()), lam(lift(whole()), v(0))}
	for n := range at {
		l = append(l, v(n), app(v(n), zero()), fst(v(n)), app(v(n), fst(v(0))))
	}
	from := d.of(len(l))
	for k := range l {
		x := l[(from+k)%len(l)]
		if Check(g[:at], g[at].Stage, x, a) == api.OK {
			return x, true
		}
	}
	return api.Tm{}, false
}

// P703: a term in the place of a variable of its type, near or far, of both stages.
func TestWhatIsPutInPlace(t *testing.T) {
	d := &die{23}
	seen := [2]int{}
	for _, s := range manySamples() {
		a, _ := Infer(s.g, s.stage, s.x)
		if hasU2(a) {
			continue
		}
		for n := range s.g {
			at := len(s.g) - 1 - n
			x, ok := someOf(t, s.g, at, d)
			if !ok || !term.Free(s.x, n) && d.of(5) > 0 {
				continue
			}
			other, b := putIn(s, a, n, x)
			if term.Check(other.x) != api.OK {
				continue
			}
			isContext(t, other.g, api.OK)
			isOf(t, other, b)
			seen[s.g[at].Stage]++
		}
	}
	if seen[0] < 300 || seen[1] < 300 {
		t.Errorf("only %v", seen)
	}
}
