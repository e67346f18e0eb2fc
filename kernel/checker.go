package kernel

import (
	"thyrsus/api"
	"thyrsus/conv"
	"thyrsus/norm"
	"thyrsus/term"
)

// checker tells types. It keeps the first error; from then on it asks nothing
// and all that it tells is empty. So a rule only asks, in its order, and need
// not look at what went wrong.
type checker struct {
	rules [api.Spl + 1]rule
	scope []variable
	err   api.Errno
}

// variable is one in scope. Its type is made normal when it is asked for, and
// once, however often the variable stands in a term.
type variable struct {
	api.Var1
	normal bool
}

func newChecker(g []api.Var1) *checker {
	c := &checker{rules: rules()}
	c.enter(g)
	return c
}

func (c *checker) enter(g []api.Var1) {
	for _, v := range g {
		c.scope = append(c.scope, variable{Var1: v})
	}
}

// admit takes one variable more, if it may be.
func (c *checker) admit(v api.Var1) api.Errno {
	if v.Stage != object && v.Stage != meta {
		return api.ErrArg
	}
	if e := term.Check(v.T); e != api.OK {
		return e
	}
	if v.Stage == meta {
		c.universe(v.T)
	} else {
		c.check(meta, v.T, leaf(api.Ty))
	}
	c.enter([]api.Var1{v})
	return c.err
}

// fail answers what stands beside an error.
func (c *checker) fail(e api.Errno) api.Tm {
	if c.err == api.OK {
		c.err = e
	}
	return api.Tm{}
}

// infer tells t's type, normal. It may call itself by the rules: t is no deeper
// than a term may be.
func (c *checker) infer(stage int, t api.Tm) api.Tm {
	switch {
	case c.err != api.OK:
		return api.Tm{}
	case t.Op == api.Var:
		return c.typeOf(stage, t.N)
	case stageOf(t.Op) != stage:
		return c.fail(api.ErrStage)
	}
	return c.normal(c.rules[t.Op](c, t))
}

// program and code tell the type of a term of either stage.
func (c *checker) program(t api.Tm) api.Tm { return c.infer(meta, t) }

func (c *checker) code(t api.Tm) api.Tm { return c.infer(object, t) }

// universe tells that of which a type is.
func (c *checker) universe(t api.Tm) api.Tm {
	u := c.program(t)
	c.parts(u, api.U)
	return u
}

// check tells t's type, which must be equal to a.
func (c *checker) check(stage int, t, a api.Tm) api.Tm {
	own := c.infer(stage, t)
	if c.err != api.OK {
		return api.Tm{}
	}
	same, e := conv.Equal(own, a)
	switch {
	case e != api.OK:
		return c.fail(e)
	case !same:
		return c.fail(api.ErrType)
	}
	return own
}

// goal is a type that a term is to have.
type goal struct {
	c     *checker
	stage int
	a     api.Tm
}

func (w goal) check(t api.Tm) api.Tm { return w.c.check(w.stage, t, w.a) }

// below asks something of a term that stands below some variables more.
func (c *checker) below(ask func(api.Tm) api.Tm, t api.Tm, vars ...api.Var1) api.Tm {
	had := len(c.scope)
	c.enter(vars)
	out := ask(t)
	c.scope = c.scope[:had]
	return out
}

// typeOf is the type of the variable n, in all of the scope.
func (c *checker) typeOf(stage, n int) api.Tm {
	at := len(c.scope) - 1 - n
	if at < 0 {
		return c.fail(api.ErrName)
	}
	v := &c.scope[at]
	if v.Stage != stage {
		return c.fail(api.ErrStage)
	}
	if !v.normal {
		v.T, v.normal = c.normal(v.T), true
	}
	// In two, for it is n+1 by which the type is shifted, and Shift takes no more than n may be.
	return term.Shift(term.Shift(v.T, 1, 0), n, 0)
}

// normal is a type when no step is left in it.
func (c *checker) normal(a api.Tm) api.Tm {
	if c.err != api.OK {
		return api.Tm{}
	}
	n, e := norm.Normal(a)
	if e != api.OK {
		return c.fail(e)
	}
	return n
}

// parts are the kids of a type, normal, that must be of an Op.
func (c *checker) parts(a api.Tm, op int) [2]api.Tm {
	var out [2]api.Tm
	if a.Op != op {
		c.fail(api.ErrShape)
		return out
	}
	copy(out[:], a.Kids)
	return out
}
