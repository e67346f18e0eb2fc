package kernel

import (
	"thyrsus/api"
	"thyrsus/term"
)

// next is U's rule.
func (c *checker) next(t api.Tm) api.Tm {
	if t.N == topLevel {
		return c.fail(api.ErrLevel)
	}
	return level(t.N + 1)
}

// product is the rule of Pi and Sig.
func (c *checker) product(t api.Tm) api.Tm {
	a, b := t.Kids[0], t.Kids[1]
	i := c.universe(a)
	k := c.below(c.universe, b, programVar(a))
	return level(max(i.N, k.N))
}

// function is Lam's rule.
func (c *checker) function(t api.Tm) api.Tm {
	a, b := t.Kids[0], t.Kids[1]
	c.universe(a)
	return node(api.Pi, a, c.below(c.program, b, programVar(a)))
}

// call is App's rule.
func (c *checker) call(t api.Tm) api.Tm {
	f, a := t.Kids[0], t.Kids[1]
	pi := c.parts(c.program(f), api.Pi)
	c.check(meta, a, pi[0])
	return put(pi[0], pi[1], a)
}

// pair is Pair's rule.
func (c *checker) pair(t api.Tm) api.Tm {
	s, a, b := t.Kids[0], t.Kids[1], t.Kids[2]
	c.universe(s)
	is := c.normal(s)
	sig := c.parts(is, api.Sig)
	c.check(meta, a, sig[0])
	c.check(meta, b, put(sig[0], sig[1], a))
	return is
}

// first is Fst's rule.
func (c *checker) first(t api.Tm) api.Tm {
	return c.parts(c.program(t.Kids[0]), api.Sig)[0]
}

// second is Snd's rule.
func (c *checker) second(t api.Tm) api.Tm {
	p := t.Kids[0]
	sig := c.parts(c.program(p), api.Sig)
	return put(sig[0], sig[1], node(api.Fst, p))
}

// recursion is Rec's rule.
func (c *checker) recursion(t api.Tm) api.Tm {
	p, z, s, n := t.Kids[0], t.Kids[1], t.Kids[2], t.Kids[3]
	nat := leaf(api.Nat)
	c.below(c.universe, p, programVar(nat))
	c.check(meta, z, put(nat, p, leaf(api.Zero)))
	// s has two variables more than P of outside: n, which is the farther one, and h
	suc := node(api.Suc, api.Tm{Op: api.Var, N: 1})
	next := goal{c, meta, put(nat, term.Shift(p, 2, 1), suc)}
	c.below(next.check, s, programVar(nat), programVar(p))
	c.check(meta, n, nat)
	return put(nat, p, n)
}

// quotation is Quo's rule.
func (c *checker) quotation(t api.Tm) api.Tm {
	return node(api.Lift, c.code(t.Kids[0]))
}
