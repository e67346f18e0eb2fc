package erase

import (
	"thyrsus/api"
)

// word is of which Op, and N, a node is that a word says: by itself, or by a list
// that it begins, the list being as shape.Head asks.
type word struct {
	op, n int
	list  func(*reader, word, []api.Form) api.Tm
}

// words are those that say anything, by their names; by none: a call.
func words() map[string]word {
	return map[string]word{
		"U0":   {op: api.U, n: 0},
		"U1":   {op: api.U, n: 1},
		"U2":   {op: api.U, n: 2},
		"Nat":  {op: api.Nat},
		"zero": {op: api.Zero},
		"Ty":   {op: api.Ty},
		"Int":  {op: api.TInt},

		"fn":     {api.Lam, 0, (*reader).function},
		"pi":     {api.Pi, 0, (*reader).named},
		"sig":    {api.Sig, 0, (*reader).named},
		"->":     {api.Pi, 0, (*reader).nameless},
		"*":      {api.Sig, 0, (*reader).nameless},
		"pair":   {api.Pair, 0, (*reader).pair},
		"fst":    {api.Fst, 0, (*reader).whole},
		"snd":    {api.Snd, 0, (*reader).whole},
		"suc":    {api.Suc, 0, (*reader).whole},
		"rec":    {api.Rec, 0, (*reader).recursion},
		"lift":   {api.Lift, 0, (*reader).whole},
		"quote":  {list: (*reader).last},
		"splice": {list: (*reader).last},
		"add":    {api.OPrim, api.PAdd, (*reader).whole},
		"sub":    {api.OPrim, api.PSub, (*reader).whole},
		"mul":    {api.OPrim, api.PMul, (*reader).whole},
		"div":    {api.OPrim, api.PDiv, (*reader).whole},
		"less":   {api.OPrim, api.PLes, (*reader).whole},
		"if":     {api.OIf, 0, (*reader).whole},
		"let":    {api.OLet, 0, (*reader).named},
		"fix":    {api.OFix, 0, (*reader).function},
		"the":    {list: (*reader).last},
		"":       {api.App, 0, (*reader).call},
	}
}

// of is the word's node with its kids.
func (w word) of(kids ...api.Tm) api.Tm { return api.Tm{Op: w.op, N: w.n, Kids: kids} }

// whole is a node of all that stands behind the word.
func (r *reader) whole(w word, l []api.Form) api.Tm { return w.of(r.forms(l[1:])...) }

// function is x or (x A), and what stands below x: A is not looked at.
func (r *reader) function(w word, l []api.Form) api.Tm {
	x := l[1]
	if x.Kind == api.FList {
		x = x.L[0]
	}
	return w.of(typeless(r.below(l[2], x.S))...)
}

// named is (x A), and what stands below x.
func (r *reader) named(w word, l []api.Form) api.Tm {
	a := r.form(l[1].L[1])
	return w.of(a, r.below(l[2], l[1].L[0].S))
}

// nameless is two forms, the second one below a variable that has no name.
func (r *reader) nameless(w word, l []api.Form) api.Tm {
	a := r.form(l[1])
	return w.of(a, r.below(l[2], ""))
}

func (r *reader) pair(w word, l []api.Form) api.Tm {
	return w.of(typeless(r.forms(l[1:])...)...)
}

// recursion is (rec (x P) z (n h s) m): P is not looked at.
func (r *reader) recursion(w word, l []api.Form) api.Tm {
	z := r.form(l[2])
	step := l[3].L
	s := r.below(step[2], step[0].S, step[1].S)
	return w.of(typeless(z, s, r.form(l[4]))...)
}

// last is what the last form says, the others only telling of what type it is.
func (r *reader) last(_ word, l []api.Form) api.Tm { return r.form(l[len(l)-1]) }

func (r *reader) call(w word, l []api.Form) api.Tm {
	f := r.form(l[0])
	for _, a := range l[1:] {
		f = w.of(f, r.form(a))
	}
	return f
}
