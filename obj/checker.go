package obj

import (
	"slices"

	"thyrsus/api"
	"thyrsus/term"
)

// checker tells types. It keeps the first error; from then on it asks nothing,
// and what it tells is no type. So a rule only asks, in its order, and need
// not look at what went wrong.
type checker struct {
	rules [api.Spl + 1]rule
	scope []api.Tm // the variables' types, the last one's nearest
	err   api.Errno
}

func newChecker(g []api.Tm) *checker {
	return &checker{rules: rules(), scope: slices.Clone(g)}
}

// fail answers what stands in the place of a type.
func (c *checker) fail(e api.Errno) api.Tm {
	if c.err == api.OK {
		c.err = e
	}
	return api.Tm{}
}

// infer tells t's type. It may call itself by the rules: t is no deeper than a
// term may be.
func (c *checker) infer(t api.Tm) api.Tm {
	if c.err != api.OK {
		return api.Tm{}
	}
	tell := c.rules[t.Op]
	if tell == nil {
		return c.fail(api.ErrStage)
	}
	return tell(c, t)
}

// check tells t's type, which must be a.
func (c *checker) check(t, a api.Tm) api.Tm { return c.same(c.infer(t), a) }

// same is a type that must be a.
func (c *checker) same(own, a api.Tm) api.Tm {
	if !term.Same(own, a) {
		return c.fail(api.ErrType)
	}
	return own
}

// below tells the type of what stands below a variable more, of the type a.
func (c *checker) below(a, t api.Tm) api.Tm {
	had := len(c.scope)
	c.scope = append(c.scope, a)
	out := c.infer(t)
	c.scope = c.scope[:had]
	return out
}

// written is a type that stands somewhere, in a term or of a variable.
func (c *checker) written(a api.Tm) api.Tm {
	if !Type(a) {
		return c.fail(api.ErrStage)
	}
	return a
}

// made is a type of two others: all that is greater or deeper than a term is
// refused here, so whoever asks of a type may go through it.
func (c *checker) made(op int, a, b api.Tm) api.Tm {
	out := node(op, a, b)
	if term.Check(out) != api.OK {
		return c.fail(api.ErrDeep)
	}
	return out
}

// parts are those of a type, that must be of an Op.
func (c *checker) parts(a api.Tm, op int) [2]api.Tm {
	if a.Op != op {
		c.fail(api.ErrShape)
		return [2]api.Tm{}
	}
	return [2]api.Tm(a.Kids)
}
