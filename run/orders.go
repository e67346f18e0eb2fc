package run

// The orders. Each is handed a number, that some do not ask for.

func (m *machine) number(n int) { m.push(value{n: n}) }

func (m *machine) variable(n int) { m.push(m.named(n)) }

// function tells one whose body is what stands next, till end.
func (m *machine) function(end int) {
	m.push(value{m.at, m.scope})
	m.at = end
}

// call enters a function's body.
func (m *machine) call(int) {
	f, x := m.popTwo()
	m.enter(f, x)
}

// fix enters what stands next, till end; its variable is what enters it again.
func (m *machine) fix(end int) {
	f := value{m.at, m.scope}
	m.at = end
	m.enter(f, f)
}

// again enters the body of the fix whose variable is met.
func (m *machine) again(n int) {
	f := m.named(n)
	m.enter(f, f)
}

// back leaves a body.
func (m *machine) back(int) {
	last := len(m.behind) - 1
	m.at, m.scope = m.behind[last].at, m.behind[last].scope
	m.behind = m.behind[:last]
}

// name makes the last value one that may be named; forget takes that away.
func (m *machine) name(int) { m.scope = &row{m.pop(), m.scope} }

func (m *machine) forget(int) { m.scope = m.scope.rest }

// choose goes on elsewhere, if the last value is 0.
func (m *machine) choose(elsewhere int) {
	if m.pop().n == 0 {
		m.at = elsewhere
	}
}

func (m *machine) jump(to int) { m.at = to }

func (m *machine) pair(int) { m.push(paired(m.popTwo())) }

func (m *machine) first(int) { m.push(m.pop().first()) }

func (m *machine) second(int) { m.push(m.pop().second()) }

func (m *machine) sum(int) {
	x, y := m.popTwo()
	m.number(x.n + y.n)
}

func (m *machine) less(int) {
	x, y := m.popTwo()
	m.number(x.n - y.n)
}

func (m *machine) product(int) {
	x, y := m.popTwo()
	m.number(x.n * y.n)
}

func (m *machine) quotient(int) {
	x, y := m.popTwo()
	m.number(x.n / y.n)
}

// below tells 1, if x is less than y.
func (m *machine) below(int) {
	x, y := m.popTwo()
	if x.n < y.n {
		m.number(1)
	} else {
		m.number(0)
	}
}
