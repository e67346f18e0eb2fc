package obj

import (
	"thyrsus/api"
)

// fits tells whether a value is one of a type. It may call itself: the type
// bounds how far, whatever the value holds.
func fits(v api.Val, a api.Tm) bool {
	switch a.Op {
	case api.TInt:
		return v.Kind == api.VInt && len(v.L) == 0
	case api.TFun:
		return v.Kind == api.VFun && v.N == 0 && len(v.L) == 0
	}
	return v.Kind == api.VPair && v.N == 0 && len(v.L) == 2 &&
		fits(v.L[0], a.Kids[0]) && fits(v.L[1], a.Kids[1])
}

// mostNodes is how many a value has at most; a thing that is none may hold itself.
const mostNodes = 1 << 16

// quoter makes terms of values, and counts what it met.
type quoter struct{ nodes int }

// term may call itself: mostNodes bounds how far.
func (q *quoter) term(v api.Val) (api.Tm, bool) {
	q.nodes++
	switch {
	case q.nodes > mostNodes:
		return api.Tm{}, false
	case v.Kind == api.VInt:
		return api.Tm{Op: api.OInt, N: v.N}, true
	case v.Kind == api.VPair && len(v.L) == 2:
		return q.pair(v.L[0], v.L[1])
	}
	return api.Tm{}, false
}

func (q *quoter) pair(v, w api.Val) (api.Tm, bool) {
	x, ok := q.term(v)
	if !ok {
		return api.Tm{}, false
	}
	y, ok := q.term(w)
	if !ok {
		return api.Tm{}, false
	}
	return node(api.OPair, x, y), true
}
