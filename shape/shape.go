// Package shape: which names are words, and how a list must stand to be told.
// See the table of doc/08-elab.md, by which more than one layer reads forms.
package shape

import (
	"thyrsus/api"
	"thyrsus/forms"
)

// Word tells whether a name is one of those that nobody may name.
func Word(s string) bool {
	_, is := behind(s)
	return is
}

// Head is the word that a list begins with, "" if it is a call; false: the list
// is none that the table has.
func Head(l []api.Form) (string, bool) {
	if len(l) < 2 || l[0].Kind == api.FNum {
		return "", false
	}
	how, is := behind(l[0].S)
	switch {
	case l[0].Kind != api.FName || !is:
		return "", true
	case !stand(l[1:], how):
		return "", false
	}
	return l[0].S, true
}

// Check refuses a form of more forms, in all, than forms.Check tells anything
// of, and what that one refuses.
func Check(f api.Form) api.Errno {
	if left(f, mostForms) < 0 {
		return api.ErrDeep
	}
	return forms.Check(f)
}

// mostForms is how many, in all, forms.Check tells anything of.
const mostForms = 1 << 16

// left is how many of so many are left when all forms of f are taken away;
// below 0: f has more. It may call itself, as each call takes one away.
func left(f api.Form, most int) int {
	most--
	if f.Kind != api.FList {
		return most
	}
	for _, part := range f.L {
		if most < 0 {
			return most
		}
		most = left(part, most)
	}
	return most
}
