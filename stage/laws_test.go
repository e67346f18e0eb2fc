package stage

import (
	"testing"

	"thyrsus/api"
	"thyrsus/kernel"
	"thyrsus/norm"
	"thyrsus/term"
)

// step takes the first step from the left that is left in x, those further out
// ahead of those within; false: there is none.
func step(x api.Tm) (api.Tm, bool) {
	if y, ok := stepAt(x); ok {
		return y, true
	}
	for k := range x.Kids {
		if y, ok := step(x.Kids[k]); ok {
			return replaced(x, k, y), true
		}
	}
	return x, false
}

// stepAt is what one step makes of x at its top; false: nothing.
func stepAt(x api.Tm) (api.Tm, bool) {
	var at api.Tm // what is taken apart
	if len(x.Kids) > 0 {
		at = x.Kids[0]
	}
	switch {
	case x.Op == api.App && at.Op == api.Lam:
		return term.Subst(at.Kids[1], 0, x.Kids[1]), true
	case x.Op == api.Fst && at.Op == api.Pair:
		return at.Kids[1], true
	case x.Op == api.Snd && at.Op == api.Pair:
		return at.Kids[2], true
	case x.Op == api.Spl && at.Op == api.Quo, x.Op == api.Quo && at.Op == api.Spl:
		return at.Kids[0], true
	case x.Op == api.Rec && x.Kids[3].Op == api.Zero:
		return x.Kids[1], true
	case x.Op == api.Rec && x.Kids[3].Op == api.Suc:
		n := x.Kids[3].Kids[0]
		h := rec(x.Kids[0], x.Kids[1], x.Kids[2], n)
		return term.Subst(term.Subst(x.Kids[2], 0, term.Shift(h, 1, 0)), 0, n), true
	}
	return api.Tm{}, false
}

// told is a second telling of Stage, step by step; false: it takes too many, or the outcome is no term.
func told(x api.Tm) (api.Tm, api.Errno, bool) {
	for range 300 {
		y, more := step(x)
		if !more {
			e := api.OK
			if len(metas(x)) > 0 {
				x, e = api.Tm{}, api.ErrStage
			}
			return x, e, e != api.OK || term.Check(x) == api.OK
		}
		if x = y; term.Size(x) > 20000 {
			break
		}
	}
	return api.Tm{}, api.OK, false
}

// P1001, P1002: terms of plain types, whatever they are made of, against the second telling.
func TestTyped(t *testing.T) {
	seen := 0
	for seed := range uint64(6000) {
		x, a, ok := typed(seed + 1)
		if !ok {
			continue
		}
		want, e, ok := told(x)
		if !ok {
			continue
		}
		y, f := Stage(x)
		if e != api.OK || f != api.OK || !term.Same(y, want) {
			t.Errorf("%s: %s, %v, not %s, %v", short(x), short(y), f, short(want), e)
			continue
		}
		isCode(t, y, a)
		if !term.Same(x, y) {
			seen++
		}
		answers(t, y, y) // there is nothing more to run
		answers(t, spl(quo(x)), y)
	}
	if seen < 2000 {
		t.Errorf("only %d", seen)
	}
}

// P1001: such terms with nodes that are others, which may have no type: against the second telling.
func TestMutated(t *testing.T) {
	seen := map[api.Errno]int{}
	d := &die{51}
	for _, x := range manyTyped(7001, 1500) {
		for range 8 {
			y := d.mutated(x)
			for d.of(3) == 0 {
				y = d.mutated(y)
			}
			want, e, ok := told(y)
			if term.Check(y) != api.OK || !ok {
				continue
			}
			seen[e]++
			if got, f := Stage(y); f != e || !term.Same(got, want) {
				t.Errorf("%s: %s, %v, not %s, %v", short(y), short(got), f, short(want), e)
			}
		}
	}
	if seen[api.OK] < 1000 || seen[api.ErrStage] < 1000 {
		t.Errorf("only %v", seen)
	}
}

// P1002: whatever the small checker accepts at stage 0, whoever made it.
func TestAccepted(t *testing.T) {
	seen := 0
	d := &die{53}
	for _, x := range manyTyped(9001, 1500) {
		for range 12 {
			y := d.mutated(x)
			a, e := kernel.Infer(nil, 0, y)
			if e != api.OK || term.Same(x, y) {
				continue
			}
			got, e := Stage(y)
			want, f := norm.Normal(y)
			if e != f || !term.Same(got, want) || e != api.OK && !heavy(e) {
				t.Errorf("%s: %s, %v, not %s, %v", short(y), short(got), e, short(want), f)
			}
			if e == api.OK {
				isCode(t, got, a)
				seen++
			}
		}
	}
	if seen < 1000 {
		t.Errorf("only %d", seen)
	}
}
