package erase

import (
	"thyrsus/api"
	"thyrsus/term"
)

// stripper makes of a term what is left when all is taken away that was put in.
type stripper struct {
	changes [api.Spl + 1]change
}

// change is of which Op a node is then, and what makes it.
type change struct {
	op   int
	made func(*stripper, int, api.Tm) api.Tm
}

// changes are those of all Ops of which more than what is in them changes.
func changes() [api.Spl + 1]change {
	return [api.Spl + 1]change{
		api.Lam:  {api.Lam, (*stripper).untyped},
		api.Pair: {api.Pair, (*stripper).untyped},
		api.Rec:  {api.Rec, (*stripper).untyped},
		api.TFun: {api.Pi, (*stripper).bound},
		api.TPro: {api.Sig, (*stripper).bound},
		api.Quo:  {made: (*stripper).inner},

		api.OLam:  {api.Lam, (*stripper).untyped},
		api.OApp:  {api.App, (*stripper).whole},
		api.OPair: {api.Pair, (*stripper).pair},
		api.OFst:  {api.Fst, (*stripper).whole},
		api.OSnd:  {api.Snd, (*stripper).whole},
		api.OInt:  {made: (*stripper).number},
		api.OFix:  {api.OFix, (*stripper).untyped},
		api.Spl:   {made: (*stripper).inner},
	}
}

// term may call itself by the changes: MaxDeep bounds how far.
func (s *stripper) term(t api.Tm) api.Tm {
	c := s.changes[t.Op]
	if c.made == nil {
		return s.whole(t.Op, t)
	}
	return c.made(s, c.op, t)
}

func (s *stripper) terms(l []api.Tm) []api.Tm {
	var out []api.Tm
	for _, t := range l {
		out = append(out, s.term(t))
	}
	return out
}

// whole is a node of all its kids.
func (s *stripper) whole(op int, t api.Tm) api.Tm {
	return api.Tm{Op: op, N: t.N, Kids: s.terms(t.Kids)}
}

// untyped is a node whose first kid is a type.
func (s *stripper) untyped(op int, t api.Tm) api.Tm {
	return api.Tm{Op: op, Kids: typeless(s.terms(t.Kids[1:])...)}
}

// pair is OPair, which has no type ahead of its parts, as Pair has.
func (s *stripper) pair(op int, t api.Tm) api.Tm {
	return api.Tm{Op: op, Kids: typeless(s.terms(t.Kids)...)}
}

// bound is a node that has a binder where t has none. What is to stand below it
// is shifted while it is a part of a term, and so no greater than that may be.
func (s *stripper) bound(op int, t api.Tm) api.Tm {
	below := term.Shift(t.Kids[1], 1, 0)
	return api.Tm{Op: op, Kids: []api.Tm{s.term(t.Kids[0]), s.term(below)}}
}

func (s *stripper) inner(_ int, t api.Tm) api.Tm { return s.term(t.Kids[0]) }

func (s *stripper) number(_ int, t api.Tm) api.Tm { return number(t.N) }
