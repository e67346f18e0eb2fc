package obj

import (
	"thyrsus/api"
)

// rule asks what is to be asked of a node of its Op, and tells the type.
type rule func(*checker, api.Tm) api.Tm

// rules are those of the Ops that plain object code has where a term stands;
// any other Op has none.
func rules() [api.Spl + 1]rule {
	return [api.Spl + 1]rule{
		api.Var:   (*checker).variable,
		api.OLam:  (*checker).function,
		api.OApp:  (*checker).call,
		api.OPair: (*checker).pair,
		api.OFst:  (*checker).first,
		api.OSnd:  (*checker).second,
		api.OInt:  (*checker).reckoned,
		api.OPrim: (*checker).reckoned,
		api.OIf:   (*checker).choice,
		api.OLet:  (*checker).let,
		api.OFix:  (*checker).fix,
	}
}

func (c *checker) variable(t api.Tm) api.Tm {
	at := len(c.scope) - 1 - t.N
	if at < 0 {
		return c.fail(api.ErrName)
	}
	return c.written(c.scope[at])
}

func (c *checker) function(t api.Tm) api.Tm {
	a := c.written(t.Kids[0])
	return c.made(api.TFun, a, c.below(a, t.Kids[1]))
}

func (c *checker) call(t api.Tm) api.Tm {
	fun := c.parts(c.infer(t.Kids[0]), api.TFun)
	c.check(t.Kids[1], fun[0])
	return fun[1]
}

func (c *checker) pair(t api.Tm) api.Tm {
	x := c.infer(t.Kids[0])
	y := c.infer(t.Kids[1])
	return c.made(api.TPro, x, y)
}

func (c *checker) first(t api.Tm) api.Tm {
	return c.parts(c.infer(t.Kids[0]), api.TPro)[0]
}

func (c *checker) second(t api.Tm) api.Tm {
	return c.parts(c.infer(t.Kids[0]), api.TPro)[1]
}

// reckoned is the rule of numbers, and of what is made of some.
func (c *checker) reckoned(t api.Tm) api.Tm {
	for _, kid := range t.Kids {
		c.check(kid, number())
	}
	return number()
}

func (c *checker) choice(t api.Tm) api.Tm {
	c.check(t.Kids[0], number())
	a := c.infer(t.Kids[1])
	return c.check(t.Kids[2], a)
}

func (c *checker) let(t api.Tm) api.Tm {
	return c.below(c.infer(t.Kids[0]), t.Kids[1])
}

func (c *checker) fix(t api.Tm) api.Tm {
	a := c.written(t.Kids[0])
	return c.same(c.below(a, t.Kids[1]), a)
}
