package norm

import (
	"thyrsus/api"
	"thyrsus/term"
)

// How much a machine does before it answers ErrFuel. A light term opens at most
// 1000 bodies by its steps and 3000 when it is read, each of at most 3000 nodes
// below less than 240 binders: with the steps' own cost less than 14000000 in
// all. Its calls are nested by its steps, and as deep as its normal form is.
const (
	mostFuel   = 1 << 24
	mostNested = 1 << 16 // bounds the stack of calls
	stepCost   = 1 << 6  // what has no end is given up sooner by it
)

// machine comes to values.
type machine struct {
	rules        [api.Spl + 1]rule
	fuel, nested int
	err          api.Errno
}

// rule is what may be done at the top of a node that has so many kids.
type rule struct {
	kids int
	do   func(*value) *value
}

func newMachine() *machine {
	m := &machine{fuel: mostFuel}
	m.rules = [api.Spl + 1]rule{
		api.App: {2, m.apply},
		api.Rec: {4, m.recur},
		api.Fst: {1, taker{m, api.Pair, 3, 1}.take},
		api.Snd: {1, taker{m, api.Pair, 3, 2}.take},
		api.Spl: {1, taker{m, api.Quo, 1, 0}.take},
		api.Quo: {1, taker{m, api.Spl, 1, 0}.take},
	}
	return m
}

// fail keeps the first error. Nothing is stepped or entered from then on, so
// that all calls come back; what they answer is thrown away.
func (m *machine) fail(e api.Errno) {
	if m.err == api.OK {
		m.err = e
	}
}

// spend tells whether there is fuel left for so much.
func (m *machine) spend(n int) bool {
	m.fuel -= n
	if m.fuel < 0 {
		m.fail(api.ErrFuel)
	}
	return m.err == api.OK
}

// code is a term that waits for its row.
type code struct {
	m *machine
	t *api.Tm
}

func (c code) in(scope row) *value { return c.m.eval(c.t, scope) }

// suspend is a term that stands below so many binders more than its row has.
func (m *machine) suspend(t *api.Tm, binders int, scope row) *part {
	if t.Op == api.Var && binders == 0 {
		return scope.at(t.N) // not a part of its own, or chains of them would grow
	}
	return &part{binders: binders, scope: scope, run: code{m, t}.in}
}

// open is what a part comes to with others in the place of its binders.
func (m *machine) open(p *part, args ...*part) *value {
	if !m.spend(1 + len(p.scope) + len(args)) {
		return &value{}
	}
	return p.run(p.scope.with(args...))
}

func (m *machine) eval(t *api.Tm, scope row) *value {
	if t.Op == api.Var {
		return scope.at(t.N).value()
	}
	return m.settle(m.node(t, scope))
}

// node is t with its kids as parts; a step may be left at its top.
func (m *machine) node(t *api.Tm, scope row) *value {
	if !m.spend(len(t.Kids)) {
		return &value{}
	}
	v := &value{op: t.Op, n: t.N, parts: make([]*part, len(t.Kids))}
	for i := range t.Kids {
		v.parts[i] = m.suspend(&t.Kids[i], term.Binders(t.Op, i), scope)
	}
	return v
}

// settle does what is to be done at the top of a node.
func (m *machine) settle(v *value) *value {
	if v.op < 0 || v.op >= len(m.rules) {
		return v
	}
	r := m.rules[v.op]
	if r.do == nil || len(v.parts) != r.kids || !m.enter() {
		return v
	}
	out := r.do(v)
	m.nested--
	return out
}

// enter tells whether one call more may be nested in those that are under way.
func (m *machine) enter() bool {
	if m.nested == mostNested {
		m.fail(api.ErrFuel)
	}
	if m.err != api.OK {
		return false
	}
	m.nested++
	return true
}
