package elab

import (
	"thyrsus/api"
)

// word is one that nobody may name: what it tells where it stands alone, and
// what tells a list that it begins. The term of a list is made of the type that
// it is to have, where there is one, by made; of a word that is bare only where
// a name, without its type, stands behind it.
type word struct {
	alone func(*maker) told
	infer func(*maker, []api.Form) told
	made  func(goal, api.Form) told
	bare  bool
}

// words are those that tell anything, by their names; by none: a call.
func words() map[string]word {
	function, pair := former{api.Pi, api.TFun}, former{api.Sig, api.TPro}
	small, whole := level(0), leaf(api.TInt)
	return map[string]word{
		"U0":   {alone: told{level(0), meta, level(1)}.always},
		"U1":   {alone: told{level(1), meta, level(2)}.always},
		"U2":   {alone: (*maker).greatest},
		"Nat":  {alone: told{leaf(api.Nat), meta, small}.always},
		"zero": {alone: told{leaf(api.Zero), meta, leaf(api.Nat)}.always},
		"Ty":   {alone: told{leaf(api.Ty), meta, small}.always},
		"Int":  {alone: told{whole, meta, leaf(api.Ty)}.always},

		"fn":     {infer: (*maker).function, made: goal.function, bare: true},
		"pi":     {infer: function.named},
		"sig":    {infer: pair.named},
		"->":     {infer: function.nameless},
		"*":      {infer: pair.nameless},
		"pair":   {infer: (*maker).pair, made: goal.pair},
		"fst":    {infer: (*maker).first},
		"snd":    {infer: (*maker).second},
		"suc":    {infer: (*maker).successor},
		"rec":    {infer: (*maker).recursion},
		"lift":   {infer: (*maker).lift},
		"quote":  {infer: (*maker).quote},
		"splice": {infer: (*maker).splice},
		"add":    {infer: prim(api.PAdd).infer},
		"sub":    {infer: prim(api.PSub).infer},
		"mul":    {infer: prim(api.PMul).infer},
		"div":    {infer: prim(api.PDiv).infer},
		"less":   {infer: prim(api.PLes).infer},
		"if":     {infer: (*maker).choice, made: goal.choice},
		"let":    {infer: (*maker).let},
		"fix":    {infer: (*maker).fix},
		"the":    {infer: (*maker).the},
		"":       {infer: (*maker).call},
	}
}

// itself is what the word tells where it stands alone.
func (w word) itself(m *maker) told {
	if w.alone == nil {
		return m.fail(api.ErrForm)
	}
	return w.alone(m)
}

// always is what a word tells that is the same wherever it stands.
func (x told) always(*maker) told { return x }

// greatest is the universe that is in none.
func (m *maker) greatest() told { return m.fail(api.ErrLevel) }
