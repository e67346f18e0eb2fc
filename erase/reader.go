package erase

import (
	"thyrsus/api"
	"thyrsus/shape"
)

// reader makes of forms the terms that they say. It keeps the first error; from
// then on it makes nothing, and all that it tells is empty. So a rule only goes
// through its parts, in their order, and need not look at what went wrong.
type reader struct {
	words map[string]word
	// vars is how many variables are in scope, place which of them, from 1 on,
	// is the nearest one of a name; 0: none.
	vars  int
	place map[string]int
	err   api.Errno
}

func newReader(names []string) *reader {
	r := &reader{words: words(), place: map[string]int{}}
	for _, x := range names {
		r.bind(x)
	}
	return r
}

// fail keeps an error, and answers what stands beside it. There is none yet, as
// forms are told only as long as there is none.
func (r *reader) fail(e api.Errno) api.Tm {
	r.err = e
	return api.Tm{}
}

// form may call itself by the rules: a form is no deeper than shape.Check allows.
func (r *reader) form(f api.Form) api.Tm {
	switch {
	case r.err != api.OK:
		return api.Tm{}
	case f.Kind == api.FName:
		return r.name(f.S)
	case f.Kind == api.FNum:
		return number(f.N)
	}
	s, ok := shape.Head(f.L)
	if !ok {
		return r.fail(api.ErrForm)
	}
	w := r.words[s]
	return w.list(r, w, f.L)
}

func (r *reader) forms(l []api.Form) []api.Tm {
	var out []api.Tm
	for _, f := range l {
		out = append(out, r.form(f))
	}
	return out
}

// name is a word that stands alone, or a variable.
func (r *reader) name(s string) api.Tm {
	if shape.Word(s) {
		if w, ok := r.words[s]; ok && w.list == nil {
			return w.of()
		}
		return r.fail(api.ErrForm)
	}
	if at := r.place[s]; at > 0 {
		return api.Tm{Op: api.Var, N: r.vars - at}
	}
	return r.fail(api.ErrName)
}

// bind lays a variable nearest; it tells which one of that name that hides.
func (r *reader) bind(x string) (hidden int) {
	hidden = r.place[x]
	r.vars++
	r.place[x] = r.vars
	return hidden
}

// free takes the nearest variable away, so that what it hid is seen again.
func (r *reader) free(x string, hidden int) {
	r.place[x] = hidden
	r.vars--
}

// below is what a form says that stands below some variables more.
func (r *reader) below(f api.Form, vars ...string) api.Tm {
	if len(vars) == 0 {
		return r.form(f)
	}
	hidden := r.bind(vars[0])
	t := r.below(f, vars[1:]...)
	r.free(vars[0], hidden)
	return t
}
