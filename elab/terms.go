package elab

import (
	"thyrsus/api"
	"thyrsus/term"
)

// Stages: of object code, of the programs that run ahead.
const (
	object = 0
	meta   = 1
)

// maxShift is the farthest that term.Shift goes at once.
const maxShift = 3000

func node(op int, kids ...api.Tm) api.Tm { return api.Tm{Op: op, Kids: kids} }

func leaf(op int) api.Tm { return api.Tm{Op: op} }

func level(n int) api.Tm { return api.Tm{Op: api.U, N: n} }

// parts are the kids of a type of two, or of one; what is none has none of them.
func parts(a api.Tm) [2]api.Tm {
	var out [2]api.Tm
	copy(out[:], a.Kids)
	return out
}

// numeral is so many Sucs of Zero.
func numeral(n int) api.Tm {
	t := leaf(api.Zero)
	for range n {
		t = node(api.Suc, t)
	}
	return t
}

// farther is a term below so many variables more, none of which it names.
func farther(t api.Tm, by int) api.Tm {
	for by > maxShift {
		t, by = term.Shift(t, maxShift, 0), by-maxShift
	}
	return term.Shift(t, by, 0)
}

// programVar and codeVar are variables in scope.
func programVar(name string, a api.Tm) variable { return variable{name: name, stage: meta, a: a} }

func codeVar(name string, a api.Tm) variable { return variable{name: name, stage: object, a: a} }

// put is b, which stands below a variable of the type a, with t in that one's
// place. It is left as a step: so nothing is copied to each place where t is
// put, and nothing is done there more than once.
func put(a, b, t api.Tm) api.Tm { return node(api.App, node(api.Lam, a, b), t) }
