package term

import (
	"thyrsus/api"
)

// variable is a free one where it stands in a term: its number, counted from
// outside the term, and how many of the term's own binders are ahead of it.
type variable struct{ n, under int }

// freeAt tells which one a node is; false: it is none, or is bound in the term.
func freeAt(t api.Tm, under int) (variable, bool) {
	if t.Op != api.Var || t.N < under {
		return variable{}, false
	}
	return variable{t.N - under, under}, true
}

func (v variable) is(n int) bool { return v.n == n }

func (v variable) reaches(n int) bool { return v.n >= n }

// node is the variable as it is written where it stands.
func (v variable) node() api.Tm { return api.Tm{Op: api.Var, N: v.n + v.under} }

// count tells of how many free variables of t the question is answered by
// yes. It may call itself, like rebuild, since what is too deep was refused.
func count(t api.Tm, under int, asks func(variable, int) bool, n int) int {
	sum := 0
	if v, ok := freeAt(t, under); ok && asks(v, n) {
		sum++
	}
	for i, kid := range t.Kids {
		sum += count(kid, under+Binders(t.Op, i), asks, n)
	}
	return sum
}

// rebuild copies t, what put makes of a free variable being in that one's place.
func rebuild[C any](t api.Tm, under int, change C, put func(C, variable) api.Tm) api.Tm {
	if v, ok := freeAt(t, under); ok {
		return put(change, v)
	}
	out := api.Tm{Op: t.Op, N: t.N}
	if len(t.Kids) == 0 {
		return out
	}
	out.Kids = make([]api.Tm, len(t.Kids))
	for i, kid := range t.Kids {
		out.Kids[i] = rebuild(kid, under+Binders(t.Op, i), change, put)
	}
	return out
}

// shift is the change that Shift makes.
type shift struct{ by, from int }

func (s shift) put(v variable) api.Tm {
	if v.n >= s.from {
		v.n += s.by
	}
	return v.node()
}

// subst is the change that Subst makes.
type subst struct {
	n int
	u api.Tm
}

func (s subst) put(v variable) api.Tm {
	if v.n == s.n {
		return rebuild(s.u, 0, shift{v.under, 0}, shift.put)
	}
	if v.n > s.n {
		v.n--
	}
	return v.node()
}

// fits tells whether the change leaves t small enough.
func (s subst) fits(t api.Tm) bool {
	outer, inner := measured(t), measured(s.u)
	if outer == 0 || inner == 0 {
		return false
	}
	return outer+inner*count(t, 0, variable.is, s.n) <= mostNodes
}
