package term

import (
	"thyrsus/api"
)

// Greater things than these are not looked into. A thing that is no term may
// hold itself, or hold one part so often that nobody could go through it; but
// what comes of terms must be taken, though Check would refuse it, and of two
// terms Subst makes less than 7000000 nodes.
const (
	mostNodes = 1 << 23
	mostDeep  = 1 << 18
)

// meter counts nodes as long as they are not too many.
type meter struct{ nodes int }

// takes may call itself: mostDeep bounds how far.
func (m *meter) takes(t api.Tm, deep int) bool {
	m.nodes++
	if m.nodes > mostNodes || deep > mostDeep {
		return false
	}
	for _, kid := range t.Kids {
		if !m.takes(kid, deep+1) {
			return false
		}
	}
	return true
}

// measured tells how many nodes t has; 0: it is too great.
func measured(t api.Tm) int {
	var m meter
	if !m.takes(t, 1) {
		return 0
	}
	return m.nodes
}

func fits(t api.Tm) bool { return measured(t) > 0 }
