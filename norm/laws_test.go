package norm

import (
	"testing"

	"thyrsus/api"
	"thyrsus/term"
)

// stepAt is what the table of steps says of x; false: nothing.
func stepAt(x api.Tm) (api.Tm, bool) {
	var at api.Tm // what is taken apart
	if len(x.Kids) > 0 {
		at = x.Kids[0]
	}
	switch {
	case x.Op == api.App && at.Op == api.Lam:
		return term.Subst(at.Kids[1], 0, x.Kids[1]), true
	case x.Op == api.Fst && at.Op == api.Pair:
		return at.Kids[1], true
	case x.Op == api.Snd && at.Op == api.Pair:
		return at.Kids[2], true
	case x.Op == api.Spl && at.Op == api.Quo, x.Op == api.Quo && at.Op == api.Spl:
		return at.Kids[0], true
	case x.Op == api.Rec && x.Kids[3].Op == api.Zero:
		return x.Kids[1], true
	case x.Op == api.Rec && x.Kids[3].Op == api.Suc:
		n := x.Kids[3].Kids[0]
		h := rec(x.Kids[0], x.Kids[1], x.Kids[2], n)
		return term.Subst(term.Subst(x.Kids[2], 0, term.Shift(h, 1, 0)), 0, n), true
	}
	return api.Tm{}, false
}

// replaced is x with another kid.
func replaced(x api.Tm, kid int, y api.Tm) api.Tm {
	x.Kids = append([]api.Tm{}, x.Kids...)
	x.Kids[kid] = y
	return x
}

// steps are all the terms that x becomes by just one step, anywhere.
func steps(x api.Tm) []api.Tm {
	var l []api.Tm
	if y, ok := stepAt(x); ok {
		l = append(l, y)
	}
	for k := range x.Kids {
		for _, y := range steps(x.Kids[k]) {
			l = append(l, replaced(x, k, y))
		}
	}
	return l
}

// counter goes by value, as W3 says it, with so many steps left.
type counter struct{ left int }

// value is x with no step left but below binders; its kids first, from the left.
func (c *counter) value(x api.Tm) api.Tm {
	if c.left < 0 || len(x.Kids) == 0 {
		return x
	}
	for k := range x.Kids {
		if term.Binders(x.Op, k) == 0 {
			x = replaced(x, k, c.value(x.Kids[k]))
		}
	}
	if x.Op == api.Rec && x.Kids[3].Op == api.Suc {
		return c.recursion(x)
	}
	if y, ok := stepAt(x); ok {
		c.left--
		return c.value(y)
	}
	return x
}

// recursion hands a Rec's own value to its s.
func (c *counter) recursion(x api.Tm) api.Tm {
	c.left--
	n := x.Kids[3].Kids[0]
	h := c.value(replaced(x, 3, n))
	return c.value(term.Subst(term.Subst(x.Kids[2], 0, term.Shift(h, 1, 0)), 0, n))
}

// normal is x with no step left.
func (c *counter) normal(x api.Tm) api.Tm { return c.read(c.value(x)) }

// read goes below the binders of a value.
func (c *counter) read(x api.Tm) api.Tm {
	for k := range x.Kids {
		if term.Binders(x.Op, k) == 0 {
			x = replaced(x, k, c.read(x.Kids[k]))
		} else {
			x = replaced(x, k, c.normal(x.Kids[k]))
		}
	}
	return x
}

// light is a term's normal form; false: it is not light.
func light(x api.Tm) (api.Tm, bool) {
	c := counter{left: 1000}
	y := c.normal(x)
	return y, c.left >= 0 && term.Check(y) == api.OK
}

// P501, P503: light terms of all kinds, against what they come to by value.
func TestTyped(t *testing.T) {
	seen := 0
	for _, x := range typedTerms(t, 101, 3000) {
		want, ok := light(x)
		if !ok {
			continue
		}
		becomes(t, x, want)
		if len(steps(want)) > 0 {
			t.Fatalf("%s: a step is left", short(want))
		}
		if !term.Same(x, want) {
			seen++
		}
	}
	if seen < 1000 {
		t.Errorf("only %d", seen)
	}
}

// P503: one step ahead by hand, wherever it is.
func TestOneStepAhead(t *testing.T) {
	seen := 0
	for _, x := range typedTerms(t, 103, 600) {
		want, ok := light(x)
		if !ok {
			continue
		}
		for _, y := range steps(x) {
			if term.Check(y) == api.OK {
				becomes(t, y, want)
				seen++
			}
		}
	}
	if seen < 2000 {
		t.Errorf("only %d", seen)
	}
}

// P503: done by hand in any order.
func TestAnyOrder(t *testing.T) {
	d := &die{107}
	seen := 0
	for _, x := range typedTerms(t, 109, 600) {
		want, ok := light(x)
		if !ok {
			continue
		}
		for range 60 {
			l := steps(x)
			if len(l) == 0 || term.Check(x) != api.OK {
				break
			}
			x = l[d.of(len(l))]
		}
		if len(steps(x)) == 0 {
			seen++
			if !term.Same(x, want) {
				t.Errorf("%s, not %s", short(x), short(want))
			}
			becomes(t, x, x)
		} else if term.Check(x) == api.OK {
			becomes(t, x, want)
		}
	}
	if seen < 200 {
		t.Errorf("only %d", seen)
	}
}
