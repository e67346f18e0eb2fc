package kernel

import (
	"thyrsus/api"
)

// Stages: of object code, of the programs that run ahead.
const (
	object = 0
	meta   = 1
)

const topLevel = 2 // of universes

// stageOf is that at which an Op stands; Var, which stands at both, is asked of the scope.
func stageOf(op int) int {
	if op >= api.OLam {
		return object
	}
	return meta
}

func node(op int, kids ...api.Tm) api.Tm { return api.Tm{Op: op, Kids: kids} }

func leaf(op int) api.Tm { return api.Tm{Op: op} }

func level(n int) api.Tm { return api.Tm{Op: api.U, N: n} }

// programVar and codeVar are variables in scope.
func programVar(a api.Tm) api.Var1 { return api.Var1{Stage: meta, T: a} }

func codeVar(a api.Tm) api.Var1 { return api.Var1{Stage: object, T: a} }

// put is b, which stands below a variable of the type a, with t in that one's
// place. It is left as a step: so nothing is copied to each place where t is
// put, and nothing is done there more than once.
func put(a, b, t api.Tm) api.Tm { return node(api.App, node(api.Lam, a, b), t) }
