package run

import (
	"thyrsus/api"
)

// writer writes code as orders for a machine: what tells a node's parts, and
// behind them what makes one value of theirs.
type writer struct {
	m      *machine
	nodes  [api.Spl + 1]func(api.Tm) // by Op: what writes a node
	prims  [api.PLes + 1]order       // by N of an OPrim
	again  []bool                    // of each variable that may be named, the nearest last: whether it is a fix's
	orders []order
}

// written is the orders of closed code that has a type: no other Op is met.
func written(t api.Tm, m *machine) []order {
	w := &writer{m: m}
	w.nodes = [api.Spl + 1]func(api.Tm){
		api.Var:   w.variable,
		api.OLam:  w.function,
		api.OApp:  w.call,
		api.OPair: w.pair,
		api.OFst:  w.first,
		api.OSnd:  w.second,
		api.OInt:  w.number,
		api.OPrim: w.prim,
		api.OIf:   w.choice,
		api.OLet:  w.let,
		api.OFix:  w.fix,
	}
	w.prims = [api.PLes + 1]order{
		api.PAdd: {do: m.sum},
		api.PSub: {do: m.less},
		api.PMul: {do: m.product},
		api.PDiv: {do: m.quotient, needs: aDivisor},
		api.PLes: {do: m.below},
	}
	w.node(t)
	return w.orders
}

// node writes what tells a node's value. It may call itself by the methods of
// the table: a term's depth bounds how far.
func (w *writer) node(t api.Tm) { w.nodes[t.Op](t) }

func (w *writer) order(o order) { w.orders = append(w.orders, o) }

// ahead writes an order that is handed a place behind it, which here tells.
func (w *writer) ahead(do func(int)) int {
	w.order(order{do: do})
	return len(w.orders) - 1
}

func (w *writer) here(at int) { w.orders[at].n = len(w.orders) }

// below writes what stands below one variable more.
func (w *writer) below(t api.Tm, again bool) {
	w.again = append(w.again, again)
	w.node(t)
	w.again = w.again[:len(w.again)-1]
}

func (w *writer) variable(t api.Tm) {
	if w.again[len(w.again)-1-t.N] {
		w.order(order{do: w.m.again, n: t.N, needs: aStep})
	} else {
		w.order(order{do: w.m.variable, n: t.N})
	}
}

func (w *writer) number(t api.Tm) { w.order(order{do: w.m.number, n: t.N}) }

// body writes what is entered and left, and passed over where it stands.
func (w *writer) body(do func(int), t api.Tm, again bool) {
	end := w.ahead(do)
	w.below(t, again)
	w.order(order{do: w.m.back})
	w.here(end)
}

func (w *writer) function(t api.Tm) { w.body(w.m.function, t.Kids[1], false) }

func (w *writer) fix(t api.Tm) { w.body(w.m.fix, t.Kids[1], true) }

// parts writes what tells all of some nodes' values, and what makes one of theirs.
func (w *writer) parts(l []api.Tm, o order) {
	for _, t := range l {
		w.node(t)
	}
	w.order(o)
}

func (w *writer) call(t api.Tm) { w.parts(t.Kids, order{do: w.m.call, needs: aStep}) }

func (w *writer) pair(t api.Tm) { w.parts(t.Kids, order{do: w.m.pair}) }

func (w *writer) first(t api.Tm) { w.parts(t.Kids, order{do: w.m.first}) }

func (w *writer) second(t api.Tm) { w.parts(t.Kids, order{do: w.m.second}) }

func (w *writer) prim(t api.Tm) { w.parts(t.Kids, w.prims[t.N]) }

func (w *writer) let(t api.Tm) {
	w.parts(t.Kids[:1], order{do: w.m.name})
	w.below(t.Kids[1], false)
	w.order(order{do: w.m.forget})
}

func (w *writer) choice(t api.Tm) {
	w.node(t.Kids[0])
	otherwise := w.ahead(w.m.choose)
	w.node(t.Kids[1])
	end := w.ahead(w.m.jump)
	w.here(otherwise)
	w.node(t.Kids[2])
	w.here(end)
}
