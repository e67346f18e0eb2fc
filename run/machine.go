package run

import (
	"thyrsus/api"
)

// order is one thing to do: a machine's method, and what it is handed.
type order struct {
	do    func(int)
	n     int
	needs int // 0: nothing
}

// What an order may need, which must be there ahead of it.
const (
	aStep    = 1 + iota // one that the fuel has left
	aDivisor            // a last value that is not 0
)

// machine follows orders. What waits for a value stands in its own lists, not in
// calls within calls: code may wait within itself as often as there is fuel.
type machine struct {
	orders []order
	at     int // the order that is next

	scope  *row    // what may be named
	values []value // what was told and no order has asked for, the newest last
	behind []place // where to go on behind the bodies that were entered, the newest last

	fuel, steps int
	err         api.Errno
}

// place is somewhere in the orders, and what may be named there.
type place struct {
	at    int
	scope *row
}

func newMachine(t api.Tm, fuel int) *machine {
	m := &machine{fuel: fuel}
	m.orders = written(t, m)
	return m
}

// follow goes from order to order, till there is none, or one that needs what
// is not there.
func (m *machine) follow() {
orders:
	for m.at < len(m.orders) {
		o := m.orders[m.at]
		m.at++
		switch o.needs {
		case aStep:
			if m.steps == m.fuel {
				m.err = api.ErrFuel
				break orders
			}
			m.steps++
		case aDivisor:
			if m.values[len(m.values)-1].n == 0 {
				m.err = api.ErrZero
				break orders
			}
		}
		o.do(o.n)
	}
}

func (m *machine) push(v value) { m.values = append(m.values, v) }

func (m *machine) pop() value {
	last := len(m.values) - 1
	v := m.values[last]
	m.values = m.values[:last]
	return v
}

// popTwo is the last two, in the order in which they were told.
func (m *machine) popTwo() (x, y value) {
	y = m.pop()
	return m.pop(), y
}

// named is the value of a variable.
func (m *machine) named(n int) value {
	r := m.scope
	for range n {
		r = r.rest
	}
	return r.v
}

// enter goes on in f's body, where its variable is v.
func (m *machine) enter(f, v value) {
	m.behind = append(m.behind, place{m.at, m.scope})
	m.at, m.scope = f.n, &row{v, f.row}
}
