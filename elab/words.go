package elab

import (
	"thyrsus/api"
)

// word is one that nobody may name: what it tells where it stands alone; how
// the forms behind it must stand where it begins a list (nothing: it begins
// none, as there is one form at least behind a word), and what tells that list.
// The term of a list that stands as open has it is made of the type that it is
// to have, where there is one: by made.
type word struct {
	alone func(*maker) told
	shape string
	infer func(*maker, []api.Form) told
	open  string
	made  func(goal, api.Form) told
}

// words are all of them, by their names.
func words() map[string]word {
	function, pair := former{api.Pi, api.TFun}, former{api.Sig, api.TPro}
	small, whole := level(0), leaf(api.TInt)
	return map[string]word{
		"U0":   {alone: told{level(0), meta, level(1)}.always},
		"U1":   {alone: told{level(1), meta, level(2)}.always},
		"U2":   {alone: (*maker).greatest},
		"Nat":  {alone: told{leaf(api.Nat), meta, small}.always},
		"zero": {alone: told{leaf(api.Zero), meta, leaf(api.Nat)}.always},
		"Ty":   {alone: told{leaf(api.Ty), meta, small}.always},
		"Int":  {alone: told{whole, meta, leaf(api.Ty)}.always},

		"fn":     {shape: "b.", infer: (*maker).function, open: "n.", made: goal.function},
		"pi":     {shape: "v.", infer: function.named},
		"sig":    {shape: "v.", infer: pair.named},
		"->":     {shape: "..", infer: function.nameless},
		"*":      {shape: "..", infer: pair.nameless},
		"pair":   {shape: "..", infer: (*maker).pair, open: "..", made: goal.pair},
		"fst":    {shape: ".", infer: (*maker).first},
		"snd":    {shape: ".", infer: (*maker).second},
		"suc":    {shape: ".", infer: (*maker).successor},
		"rec":    {shape: "v.s.", infer: (*maker).recursion},
		"lift":   {shape: ".", infer: (*maker).lift},
		"quote":  {shape: ".", infer: (*maker).quote},
		"splice": {shape: ".", infer: (*maker).splice},
		"add":    {shape: "..", infer: prim(api.PAdd).infer},
		"sub":    {shape: "..", infer: prim(api.PSub).infer},
		"mul":    {shape: "..", infer: prim(api.PMul).infer},
		"div":    {shape: "..", infer: prim(api.PDiv).infer},
		"less":   {shape: "..", infer: prim(api.PLes).infer},
		"if":     {shape: "...", infer: (*maker).choice, open: "...", made: goal.choice},
		"let":    {shape: "v.", infer: (*maker).let},
		"fix":    {shape: "v.", infer: (*maker).fix},
		"the":    {shape: "..", infer: (*maker).the},
		"def":    {},
	}
}

// itself is what the word tells where it stands alone.
func (w word) itself(m *maker) told {
	if w.alone == nil {
		return m.fail(api.ErrForm)
	}
	return w.alone(m)
}

// always is what a word tells that is the same wherever it stands.
func (x told) always(*maker) told { return x }

// greatest is the universe that is in none.
func (m *maker) greatest() told { return m.fail(api.ErrLevel) }
