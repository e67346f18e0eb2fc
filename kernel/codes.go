package kernel

import (
	"thyrsus/api"
	"thyrsus/term"
)

// outside is a type of object code from below a variable that it must not name.
func (c *checker) outside(a api.Tm) api.Tm {
	if term.Free(a, 0) {
		return c.fail(api.ErrScope)
	}
	return term.Subst(a, 0, leaf(api.Zero)) // in nobody's place: all others are one less
}

// codeFunction is OLam's rule.
func (c *checker) codeFunction(t api.Tm) api.Tm {
	a, b := t.Kids[0], t.Kids[1]
	c.check(meta, a, leaf(api.Ty))
	return node(api.TFun, a, c.outside(c.below(c.code, b, codeVar(a))))
}

// codeCall is OApp's rule.
func (c *checker) codeCall(t api.Tm) api.Tm {
	fun := c.parts(c.code(t.Kids[0]), api.TFun)
	c.check(object, t.Kids[1], fun[0])
	return fun[1]
}

// codePair is OPair's rule.
func (c *checker) codePair(t api.Tm) api.Tm {
	x := c.code(t.Kids[0])
	y := c.code(t.Kids[1])
	return node(api.TPro, x, y)
}

// codeFirst is OFst's rule.
func (c *checker) codeFirst(t api.Tm) api.Tm {
	return c.parts(c.code(t.Kids[0]), api.TPro)[0]
}

// codeSecond is OSnd's rule.
func (c *checker) codeSecond(t api.Tm) api.Tm {
	return c.parts(c.code(t.Kids[0]), api.TPro)[1]
}

// codeIf is OIf's rule.
func (c *checker) codeIf(t api.Tm) api.Tm {
	c.check(object, t.Kids[0], leaf(api.TInt))
	a := c.code(t.Kids[1])
	c.check(object, t.Kids[2], a)
	return a
}

// codeLet is OLet's rule.
func (c *checker) codeLet(t api.Tm) api.Tm {
	a := c.code(t.Kids[0])
	return c.outside(c.below(c.code, t.Kids[1], codeVar(a)))
}

// codeFix is OFix's rule.
func (c *checker) codeFix(t api.Tm) api.Tm {
	a, b := t.Kids[0], t.Kids[1]
	c.check(meta, a, leaf(api.Ty))
	same := goal{c, object, term.Shift(a, 1, 0)}
	c.below(same.check, b, codeVar(a))
	return a
}

// splice is Spl's rule.
func (c *checker) splice(t api.Tm) api.Tm {
	return c.parts(c.program(t.Kids[0]), api.Lift)[0]
}
