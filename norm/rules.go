package norm

import (
	"thyrsus/api"
)

// step tells whether a step may be taken.
func (m *machine) step() bool { return m.spend(stepCost) }

// apply is App's rule.
func (m *machine) apply(v *value) *value {
	f := v.parts[0].value()
	if !f.is(api.Lam, 2) || !m.step() {
		return v
	}
	return m.open(f.parts[1], v.parts[1])
}

// recur is Rec's rule.
func (m *machine) recur(v *value) *value {
	n := v.parts[3].value()
	switch {
	case n.is(api.Zero, 0) && m.step():
		return v.parts[1].value()
	case n.is(api.Suc, 1) && m.step():
		return m.open(v.parts[2], n.parts[0], m.again(v, n.parts[0]))
	}
	return v
}

// again is the same Rec of another number, when it is needed.
func (m *machine) again(v *value, n *part) *part {
	rec := &value{op: v.op, n: v.n, parts: []*part{v.parts[0], v.parts[1], v.parts[2], n}}
	return &part{run: loop{m, rec}.in}
}

// loop is a Rec that waits; it has its row in it.
type loop struct {
	m   *machine
	rec *value
}

func (l loop) in(row) *value { return l.m.settle(l.rec) }

// taker is the rule of those that take one part of an Op with so many kids.
type taker struct {
	m              *machine
	op, kids, part int
}

func (k taker) take(v *value) *value {
	from := v.parts[0].value()
	if !from.is(k.op, k.kids) || !k.m.step() {
		return v
	}
	return from.parts[k.part].value()
}
