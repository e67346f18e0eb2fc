package elab

import (
	"thyrsus/api"
)

// How a form must stand where it is a part of a list: a letter for each part.
// All other letters let any form stand.
const (
	aName  = 'n' // and no word
	aTyped = 'v' // (x A)
	aStep  = 's' // (n h s)
	aBound = 'b' // x, or (x A)
)

// stand tells whether all of a list stand as they must.
func (m *maker) stand(l []api.Form, shape string) bool {
	if len(l) != len(shape) {
		return false
	}
	for i, f := range l {
		if !m.stands(f, shape[i]) {
			return false
		}
	}
	return true
}

func (m *maker) stands(f api.Form, how byte) bool {
	switch how {
	case aName:
		_, is := m.words[f.S]
		return f.Kind == api.FName && !is
	case aTyped:
		return f.Kind == api.FList && m.stand(f.L, "n.")
	case aStep:
		return f.Kind == api.FList && m.stand(f.L, "nn.")
	case aBound:
		return m.stands(f, aName) || m.stands(f, aTyped)
	}
	return true
}

// head is the word by which a list is told, the list being as that word asks;
// false: the list is none. What begins with no word is a call.
func (m *maker) head(l []api.Form) (word, bool) {
	w, ok := m.heading(l)
	if !ok {
		m.fail(api.ErrForm)
	}
	return w, ok
}

func (m *maker) heading(l []api.Form) (word, bool) {
	if len(l) < 2 || l[0].Kind == api.FNum {
		return word{}, false
	}
	if w, is := m.words[l[0].S]; is && l[0].Kind == api.FName {
		return w, m.stand(l[1:], w.shape)
	}
	return word{infer: (*maker).call}, true
}

// mostForms is how many, in all, forms.Check tells anything of.
const mostForms = 1 << 16

// formsLeft is how many of so many are left when all forms of f are taken away;
// below 0: f has more. It may call itself, as each call takes one away.
func formsLeft(f api.Form, left int) int {
	left--
	if f.Kind != api.FList {
		return left
	}
	for _, part := range f.L {
		if left < 0 {
			return left
		}
		left = formsLeft(part, left)
	}
	return left
}
