package run

import (
	"thyrsus/api"
)

// value is a number, a pair, a function, or a fix (of which only variables are).
// Which one it is, its type tells, so that it need not: orders ask of a value
// only what one of its type has.
type value struct {
	n   int  // a number; where the body of a function or a fix begins
	row *row // a pair's two; what such a body may name beside its own variable
}

// row is values one behind the other: what may be named, the nearest first.
// None is ever changed, so that many share one.
type row struct {
	v    value
	rest *row
}

// told is a value of a type as others see it, in new memory.
func told(v value, a api.Tm) api.Val {
	switch a.Op {
	case api.TInt:
		return api.Val{Kind: api.VInt, N: v.n}
	case api.TPro:
		return api.Val{Kind: api.VPair, L: []api.Val{told(v.first(), a.Kids[0]), told(v.second(), a.Kids[1])}}
	}
	return api.Val{Kind: api.VFun}
}

func paired(x, y value) value { return value{row: &row{x, &row{v: y}}} }

func (v value) first() value { return v.row.v }

func (v value) second() value { return v.row.rest.v }
