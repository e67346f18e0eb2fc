package term

import (
	"strconv"
	"testing"

	"thyrsus/api"
)

// told is x with what is bound in it told by its number, what is free by a
// name. So x reads the same wherever it is put, however it is counted there.
func told(x api.Tm, under int, name func(int) string) string {
	if x.Op == api.Var && x.N >= under {
		return name(x.N - under)
	}
	s := "[" + strconv.Itoa(x.Op) + " " + strconv.Itoa(x.N)
	for i, kid := range x.Kids {
		s += told(kid, under+bound(x.Op, i), name)
	}
	return s + "]"
}

// named is a free variable's name.
func named(n int) string { return "<" + strconv.Itoa(n) + ">" }

// wantShift is what Shift must be told as.
func wantShift(x api.Tm, by, from int) string {
	return told(x, 0, func(n int) string {
		if n >= from {
			n += by
		}
		return named(n)
	})
}

// wantSubst is what Subst must be told as.
func wantSubst(x api.Tm, n int, u api.Tm) string {
	return told(x, 0, func(k int) string {
		switch {
		case k == n:
			return told(u, 0, named)
		case k > n:
			k--
		}
		return named(k)
	})
}

func shifted(t *testing.T, x api.Tm, by, from int) {
	t.Helper()
	if got := told(Shift(x, by, from), 0, named); got != wantShift(x, by, from) {
		t.Errorf("Shift(%s, %d, %d): %s", Text(x), by, from, got)
	}
}

func substituted(t *testing.T, x api.Tm, n int, u api.Tm) {
	t.Helper()
	if got := told(Subst(x, n, u), 0, named); got != wantSubst(x, n, u) {
		t.Errorf("Subst(%s, %d, %s): %s", Text(x), n, Text(u), got)
	}
}

func written(t *testing.T, x api.Tm, want string) {
	t.Helper()
	if got := Text(x); got != want {
		t.Errorf("%s, not %s", got, want)
	}
}

// P403: one variable, with no binder ahead of it.
func TestShiftVariable(t *testing.T) {
	written(t, Shift(v(0), 0, 0), "v0")
	written(t, Shift(v(0), 1, 0), "v1")
	written(t, Shift(v(0), 1, 1), "v0")
	written(t, Shift(v(1), 1, 1), "v2")
	written(t, Shift(v(2), 1, 1), "v3")
	written(t, Shift(v(0), 3000, 0), "v3000")
	written(t, Shift(v(3000), 0, 0), "v3000")
	written(t, Shift(v(3000), 3000, 0), "v6000")
	written(t, Shift(v(3000), 3000, 3000), "v6000")
	written(t, Shift(v(2999), 3000, 3000), "v2999")
	written(t, Shift(v(3000), 0, 3000), "v3000")
}

// P403: numbers that are no variable's stay.
func TestShiftOthers(t *testing.T) {
	for op, n := range kidsByOp() {
		if op != api.Var {
			x := of(op, leaves(n)...)
			written(t, Shift(x, 3000, 0), Text(x))
			written(t, Subst(x, 0, v(7)), Text(x))
		}
	}
	for _, x := range []api.Tm{numbered(api.U, 2), numbered(api.OInt, 5), numbered(api.OInt, -5), numbered(api.OPrim, 3, leaves(2)...)} {
		written(t, Shift(x, 1, 0), Text(x))
		written(t, Subst(x, 0, v(7)), Text(x))
		written(t, Subst(x, max(x.N, 0), v(7)), Text(x))
	}
}

// P403: below each kind of binder, at its bound, and beyond it.
func TestChangesAtBinders(t *testing.T) {
	u := of(api.App, v(0), of(api.Lam, v(1), of(api.App, v(0), v(1))))
	for n := range 6 {
		inEach(v(n), func(y api.Tm, under int) {
			for k := range 5 {
				for by := range 3 {
					shifted(t, y, by, k)
				}
				shifted(t, y, 3000, k)
				substituted(t, y, k, u)
			}
			inEach(y, func(z api.Tm, _ int) {
				shifted(t, z, 2, 1)
				substituted(t, z, 1, u)
			})
		})
	}
}

// P403: texts that were written by hand.
func TestSubst(t *testing.T) {
	written(t, Subst(v(0), 0, v(5)), "v5")
	written(t, Subst(v(1), 0, v(5)), "v0")
	written(t, Subst(v(0), 1, v(5)), "v0")
	written(t, Subst(v(1), 1, v(5)), "v5")
	written(t, Subst(v(3000), 3000, of(api.Zero)), "11")
	written(t, Subst(v(3000), 2999, of(api.Zero)), "v2999")
	written(t, Subst(v(3000), 3001, of(api.Zero)), "v3000")
	written(t, Subst(v(3000), 1<<62, of(api.Zero)), "v3000")
	written(t, Subst(of(api.Lam, v(0), v(1)), 0, v(3)), "(4 v3 v4)")
	written(t, Subst(of(api.Lam, v(0), v(0)), 0, v(3)), "(4 v3 v0)")
	written(t, Subst(of(api.Lam, v(1), v(2)), 0, v(3)), "(4 v0 v1)")
	written(t, Subst(of(api.Rec, v(1), v(0), of(api.App, v(2), of(api.App, v(1), v(3))), v(1)), 0, v(4)),
		"(13 v5 v4 (5 v6 (5 v1 v2)) v0)")
	written(t, Subst(of(api.Lam, of(api.Nat), v(1)), 0, of(api.Lam, v(0), of(api.App, v(0), v(1)))),
		"(4 10 (4 v1 (5 v0 v2)))")
	written(t, Subst(of(api.App, v(0), v(0)), 0, of(api.Suc, v(0))), "(5 (12 v0) (12 v0))")
}

// P403: 119 binders ahead of the variable, of one and of two each.
func TestChangesDeep(t *testing.T) {
	one, two := v(119), v(238)
	for range 119 {
		one = of(api.Lam, of(api.Nat), one)
		two = of(api.Rec, of(api.Nat), of(api.Zero), two, of(api.Zero))
	}
	for _, x := range []api.Tm{one, two} {
		for _, n := range []int{0, 1, 3000} {
			shifted(t, x, 3000, n)
			shifted(t, x, n, 0)
			substituted(t, x, n, sucs(119, v(3000)))
			substituted(t, x, n, x)
		}
	}
}

// P403: any terms.
func TestChangesOfAny(t *testing.T) {
	d := &die{13}
	us := terms(t, 17, 1000, 4)
	for i, x := range terms(t, 19, 1000, 5) {
		shifted(t, x, d.of(5), d.of(5))
		shifted(t, x, d.of(3001), d.of(8))
		shifted(t, x, d.of(5), 2996+d.of(5))
		substituted(t, x, d.of(8), us[i])
		substituted(t, x, d.of(3001), us[i])
	}
}

// P403: as great as it can be of two terms.
func TestSubstGreatest(t *testing.T) {
	x := bush(749, 0)
	if Check(x) != api.OK || size(x) != 2997 {
		t.Fatalf("%v, %d", Check(x), size(x))
	}
	got := Subst(x, 0, sized(3000))
	if n := Size(got); n != 749+2248*3000 {
		t.Errorf("%d nodes", n)
	}
	if !Below(got, 0) || Same(got, x) {
		t.Error("a variable is left")
	}
}

// bush is a tree of so many Recs, all its leaves being the variable that is 0 outside the binders.
func bush(recs, under int) api.Tm {
	if recs == 0 {
		return v(under)
	}
	left := recs - 1
	x := of(api.Rec)
	for kid := range 4 {
		part := left / (4 - kid)
		left -= part
		x.Kids = append(x.Kids, bush(part, under+bound(api.Rec, kid)))
	}
	return x
}

// agree checks that two ways come to the same.
func agree(t *testing.T, law string, x, a, b api.Tm) {
	t.Helper()
	if !Same(a, b) || Text(a) != Text(b) {
		t.Errorf("%s: of %s: %s and %s", law, Text(x), Text(a), Text(b))
	}
}

// P404: two shifts, done in one order and in the other one.
func TestShiftsCommute(t *testing.T) {
	d := &die{23}
	for _, x := range terms(t, 29, 1000, 5) {
		a, b, n := d.of(5), d.of(5), d.of(5)
		m := d.of(n + 1) // at most n
		agree(t, "by nought", x, Shift(x, 0, n), x)
		agree(t, "the lower one first", x, Shift(Shift(x, a, n), b, m), Shift(Shift(x, b, m), a, n+b))
		agree(t, "both at once", x, Shift(Shift(x, a, n), b, n+d.of(a+1)), Shift(x, a+b, n))
		agree(t, "far", x, Shift(Shift(x, 3000, n), 3000, n), Shift(Shift(x, 3000, n), 3000, 3000))
	}
}

// P404: a shift and a substitution.
func TestShiftAndSubstCommute(t *testing.T) {
	d := &die{31}
	us := terms(t, 37, 1000, 4)
	for i, x := range terms(t, 41, 1000, 5) {
		u, n, by := us[i], d.of(5), d.of(4)
		low, high := d.of(n+1), n+d.of(4)
		agree(t, "what is made room for is taken away", x, Subst(Shift(x, 1, n), n, u), x)
		agree(t, "a shift from below", x, Shift(Subst(x, n, u), by, low), Subst(Shift(x, by, low), n+by, Shift(u, by, low)))
		agree(t, "a shift from above", x, Shift(Subst(x, n, u), by, high), Subst(Shift(x, by, high+1), n, Shift(u, by, high)))
		agree(t, "a variable by itself", x, Subst(Shift(x, 1, n+1), n, v(n)), x)
	}
}

// P404: two substitutions.
func TestSubstsCommute(t *testing.T) {
	d := &die{43}
	us, zs := terms(t, 47, 1000, 3), terms(t, 53, 1000, 3)
	for i, x := range terms(t, 59, 1000, 4) {
		u, z, n := us[i], zs[i], d.of(5)
		m := d.of(n + 1) // at most n
		agree(t, "the lower one first", x, Subst(Subst(x, m, u), n, z),
			Subst(Subst(x, n+1, Shift(z, 1, m)), m, Subst(u, n, z)))
		agree(t, "the higher one first", x, Subst(Subst(x, n+1, u), m, z),
			Subst(Subst(x, m, Shift(z, 1, n)), n, Subst(u, m, z)))
	}
}

// P403, P404: what is not free is put in place of nowhere.
func TestSubstOfNone(t *testing.T) {
	for _, x := range terms(t, 61, 1000, 5) {
		for n := range 8 {
			alike := Same(Subst(x, n, numbered(api.OInt, 1)), Subst(x, n, numbered(api.OInt, 2)))
			if alike == Free(x, n) {
				t.Errorf("%s, %d", Text(x), n)
			}
		}
	}
}
