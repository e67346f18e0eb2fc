package term

import (
	"thyrsus/api"
)

// checker counts the nodes that were met.
type checker struct{ nodes int }

// check may call itself: MaxDeep bounds how far.
func (c *checker) check(t api.Tm, deep int) api.Errno {
	c.nodes++
	if c.nodes > api.MaxNodes || deep > api.MaxDeep {
		return api.ErrDeep
	}
	if !mayBe(t) {
		return api.ErrArg
	}
	for _, kid := range t.Kids {
		if e := c.check(kid, deep+1); e != api.OK {
			return e
		}
	}
	return api.OK
}
