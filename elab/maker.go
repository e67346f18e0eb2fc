package elab

import (
	"slices"

	"thyrsus/api"
	"thyrsus/conv"
	"thyrsus/norm"
	"thyrsus/shape"
	"thyrsus/term"
)

// maker makes terms of forms. It keeps the first error; from then on it makes
// and asks nothing, and all that it tells is empty. So a rule only goes through
// its parts, in their order, and need not look at what went wrong.
type maker struct {
	words map[string]word
	scope []variable
	defs  []Known
	err   api.Errno
}

// variable is one in scope. Its type is made normal when it is asked for, and
// once, however often the variable is named.
type variable struct {
	name   string
	stage  int
	a      api.Tm
	normal bool
}

// told is what is told of a form: its term, that one's stage, and its type.
type told struct {
	t     api.Tm
	stage int
	a     api.Tm
}

// newMaker has an error at once, if it is handed what may not be.
func newMaker(e Env, f api.Form) *maker {
	m := &maker{words: words(), defs: e.Defs}
	if len(e.Names) != len(e.G) {
		m.fail(api.ErrArg)
		return m
	}
	m.fail(shape.Check(f))
	for i, v := range e.G {
		m.scope = append(m.scope, variable{name: e.Names[i], stage: v.Stage, a: v.T})
	}
	return m
}

// fail keeps an error, unless there is one, and answers what stands beside it.
func (m *maker) fail(e api.Errno) told {
	if m.err == api.OK {
		m.err = e
	}
	return told{}
}

// whole is the term that is answered: what was put together of parts that may
// be those of others, copied. How great it is, is asked here and nowhere else.
func (m *maker) whole(x told) (api.Tm, api.Errno) {
	m.fail(term.Check(x.t))
	if m.err != api.OK {
		return api.Tm{}, m.err
	}
	return term.Shift(x.t, 0, 0), api.OK
}

// infer tells what a form is by itself, its type normal. It may call itself by
// the rules: a form is no deeper than forms.Check allows.
func (m *maker) infer(f api.Form) told {
	switch {
	case m.err != api.OK:
		return told{}
	case f.Kind == api.FName:
		return m.name(f.S)
	case f.Kind == api.FNum:
		return told{api.Tm{Op: api.OInt, N: f.N}, object, leaf(api.TInt)}
	}
	w, ok := m.head(f.L)
	if !ok {
		return told{}
	}
	x := w.infer(m, f.L)
	x.a = m.normal(x.a)
	return x
}

// head is the word by which a list is told, the list being as that word asks;
// false: the list is none.
func (m *maker) head(l []api.Form) (word, bool) {
	s, ok := shape.Head(l)
	if !ok {
		m.fail(api.ErrForm)
	}
	return m.words[s], ok
}

// name tells what a name stands for.
func (m *maker) name(s string) told {
	if shape.Word(s) {
		return m.words[s].itself(m)
	}
	for n := range m.scope {
		if at := len(m.scope) - 1 - n; m.scope[at].name == s {
			return m.variable(at, n)
		}
	}
	for _, d := range slices.Backward(m.defs) {
		if d.Name == s {
			return told{d.T, d.Stage, d.A}
		}
	}
	return m.fail(api.ErrName)
}

// variable tells the one that stands in the scope at a place, n others being nearer.
func (m *maker) variable(at, n int) told {
	v := &m.scope[at]
	if !v.normal {
		v.a, v.normal = m.normal(v.a), true
	}
	return told{api.Tm{Op: api.Var, N: n}, v.stage, farther(v.a, n+1)}
}

// program tells a form that must be at stage 1.
func (m *maker) program(f api.Form) told {
	x := m.infer(f)
	if x.stage == object {
		return m.fail(api.ErrStage)
	}
	return x
}

// universe tells a form that must be a type of programs.
func (m *maker) universe(f api.Form) told {
	x := m.program(f)
	m.mustBe(x.a, api.U, api.ErrShape)
	return x
}

// code tells a form at stage 0.
func (m *maker) code(f api.Form) told { return m.coerced(m.infer(f)) }

// coerced is x at stage 0, spliced where it is a program.
func (m *maker) coerced(x told) told {
	if x.stage == object {
		return x
	}
	return told{node(api.Spl, x.t), object, m.mustBe(x.a, api.Lift, api.ErrStage)[0]}
}

// below asks something of a form that stands below some variables more.
func (m *maker) below(ask func(api.Form) told, f api.Form, vars ...variable) told {
	had := len(m.scope)
	m.scope = append(m.scope, vars...)
	x := ask(f)
	m.scope = m.scope[:had]
	return x
}

// outside is a type of object code from below a variable that it must not name.
func (m *maker) outside(a api.Tm) api.Tm {
	if term.Free(a, 0) {
		m.fail(api.ErrScope)
	}
	return term.Subst(a, 0, leaf(api.Zero)) // in nobody's place: all others are one less
}

// normal is a type when no step is left in it.
func (m *maker) normal(a api.Tm) api.Tm {
	if m.err != api.OK {
		return api.Tm{}
	}
	n, e := norm.Normal(a)
	m.fail(e)
	return n
}

// shifted is a term in which all variables from a number on are two more. What
// is too great to be shifted is greater than a term may be.
func (m *maker) shifted(t api.Tm, by, from int) api.Tm {
	out := term.Shift(t, by, from)
	if out.Op == 0 {
		m.fail(api.ErrDeep)
	}
	return out
}

// same refuses two types that are not equal.
func (m *maker) same(a, b api.Tm) {
	if m.err != api.OK {
		return
	}
	is, e := conv.Equal(a, b)
	m.fail(e)
	if !is {
		m.fail(api.ErrType)
	}
}

// mustBe tells the parts of a type, normal, that must be of an Op.
func (m *maker) mustBe(a api.Tm, op int, e api.Errno) [2]api.Tm {
	if a.Op != op {
		m.fail(e)
		return [2]api.Tm{}
	}
	return parts(a)
}
