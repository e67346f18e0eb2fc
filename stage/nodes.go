package stage

import (
	"thyrsus/api"
)

// all tells whether each question is answered by yes of each node of t, those
// of a node in their order. It may call itself: the meter that is asked first
// bounds how far.
func all(t api.Tm, asks ...func(api.Tm) bool) bool {
	for _, ask := range asks {
		if !ask(t) {
			return false
		}
	}
	for _, kid := range t.Kids {
		if !all(kid, asks...) {
			return false
		}
	}
	return true
}

// mostNodes is more than a term has; a thing that is none may hold itself.
const mostNodes = 1 << 16

// meter counts the nodes that were met.
type meter struct{ nodes int }

func (m *meter) takes(api.Tm) bool {
	m.nodes++
	return m.nodes <= mostNodes
}

// ops is a set of Ops, a bit for each.
type ops uint32

// plain are those of what no longer has anything to run ahead.
const plain ops = 1<<api.Var | 1<<api.TInt | 1<<api.TFun | 1<<api.TPro |
	1<<api.OLam | 1<<api.OApp | 1<<api.OPair | 1<<api.OFst | 1<<api.OSnd |
	1<<api.OInt | 1<<api.OPrim | 1<<api.OIf | 1<<api.OLet | 1<<api.OFix

func (s ops) has(t api.Tm) bool { return t.Op >= 0 && s>>t.Op&1 == 1 }
