package elab

import (
	"thyrsus/api"
	"thyrsus/term"
)

// said is a term without what was put in: types, quotations and splices; both
// stages' functions, pairs and types of them alike, numbers as Sucs of Zero.
func said(x api.Tm) api.Tm {
	l := make([]api.Tm, len(x.Kids))
	for k, kid := range x.Kids {
		l[k] = said(kid)
	}
	switch x.Op {
	case api.Quo, api.Spl:
		return l[0]
	case api.Lam, api.OLam:
		return lam(zero(), l[1])
	case api.OFix:
		return of(api.OFix, zero(), l[1])
	case api.Pair:
		return pairOf(zero(), l[1], l[2])
	case api.OPair:
		return pairOf(zero(), l[0], l[1])
	case api.Rec:
		return rec(zero(), l[1], l[2], l[3])
	case api.OApp:
		return of(api.App, l...)
	case api.OFst:
		return of(api.Fst, l...)
	case api.OSnd:
		return of(api.Snd, l...)
	case api.TFun:
		return pi(l[0], term.Shift(l[1], 1, 0))
	case api.TPro:
		return sig(l[0], term.Shift(l[1], 1, 0))
	case api.OInt:
		return saidNumber(x.N)
	}
	return numbered(x.Op, x.N, l...)
}

func saidNumber(n int) api.Tm {
	if n < 0 || n > 40 {
		return i(n)
	}
	return num(n)
}

// saidForm is the term that a form says, that may be told; names: the last one nearest.
func saidForm(names []string, f api.Form) api.Tm {
	switch f.Kind {
	case api.FName:
		return saidName(names, f.S)
	case api.FNum:
		return saidNumber(f.N)
	}
	l := f.L
	part := func(k int) api.Tm { return saidForm(names, l[k]) }
	under := func(k int, more ...string) api.Tm {
		return saidForm(append(append([]string{}, names...), more...), l[k])
	}
	switch kindOf(l) {
	case "fn x":
		return lam(zero(), under(2, l[1].S))
	case "fn":
		return lam(zero(), under(2, l[1].L[0].S))
	case "fix":
		return of(api.OFix, zero(), under(2, l[1].L[0].S))
	case "pi":
		return pi(saidForm(names, l[1].L[1]), under(2, l[1].L[0].S))
	case "sig":
		return sig(saidForm(names, l[1].L[1]), under(2, l[1].L[0].S))
	case "let":
		return of(api.OLet, saidForm(names, l[1].L[1]), under(2, l[1].L[0].S))
	case "->":
		return pi(part(1), term.Shift(part(2), 1, 0))
	case "*":
		return sig(part(1), term.Shift(part(2), 1, 0))
	case "pair":
		return pairOf(zero(), part(1), part(2))
	case "rec":
		s := saidForm(append(append([]string{}, names...), l[3].L[0].S, l[3].L[1].S), l[3].L[2])
		return rec(zero(), part(2), s, part(4))
	case "the":
		return part(2)
	case "quote", "splice":
		return part(1)
	case "fst":
		return of(api.Fst, part(1))
	case "snd":
		return of(api.Snd, part(1))
	case "suc":
		return of(api.Suc, part(1))
	case "lift":
		return lifted(part(1))
	case "if":
		return of(api.OIf, part(1), part(2), part(3))
	case "call":
		x := part(0)
		for k := range l[1:] {
			x = app(x, part(k+1))
		}
		return x
	}
	return numbered(api.OPrim, map[string]int{"add": api.PAdd, "sub": api.PSub, "mul": api.PMul, "div": api.PDiv, "less": api.PLes}[l[0].S], part(1), part(2))
}

func saidName(names []string, s string) api.Tm {
	switch s {
	case "U0", "U1", "U2":
		return u(int(s[1] - '0'))
	case "Nat":
		return nat()
	case "zero":
		return zero()
	case "Ty":
		return ty()
	case "Int":
		return whole()
	}
	for k := len(names) - 1; k >= 0; k-- {
		if names[k] == s {
			return v(len(names) - 1 - k)
		}
	}
	return api.Tm{}
}

// saysAll tells whether a form that says x names no definition.
func saysAll(x api.Tm) bool {
	for _, kid := range x.Kids {
		if !saysAll(kid) {
			return false
		}
	}
	return x.Op != 0
}
