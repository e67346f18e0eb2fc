package forms

import (
	"thyrsus/api"
	"thyrsus/lex"
)

// maxNum is the greatest number, and without its sign the least one.
const maxNum = 1 << 62

// place is a form, and how deep it stands if it is a list.
type place struct {
	form api.Form
	deep int
}

// fault tells a form's own error, not those of what is in it.
func fault(f api.Form, deep int) api.Errno {
	if f.Kind < api.FName || f.Kind > api.FList {
		return api.ErrForm
	}
	return faults()[f.Kind](place{f, deep})
}

// faults tell which error a form has, by its kind.
func faults() [api.FList + 1]func(place) api.Errno {
	return [...]func(place) api.Errno{
		api.FName: place.name,
		api.FNum:  place.number,
		api.FList: place.list,
	}
}

// name asks layer 2, so that a name is allowed just where Parse would read
// it. No other token than a name has an S.
func (p place) name() api.Errno {
	l, _, e := lex.Tokens(p.form.S)
	if e != api.OK || len(l) != 1 || l[0].S != p.form.S {
		return api.ErrForm
	}
	return api.OK
}

func (p place) number() api.Errno {
	if p.form.N < -maxNum || p.form.N > maxNum {
		return api.ErrForm
	}
	return api.OK
}

func (p place) list() api.Errno {
	if p.deep > maxDeep {
		return api.ErrDeep
	}
	return api.OK
}
