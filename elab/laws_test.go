package elab

import (
	"testing"

	"thyrsus/api"
	"thyrsus/kernel"
	"thyrsus/term"
)

// heavy tells whether an error is one of what is not light.
func heavy(e api.Errno) bool { return e == api.ErrFuel || e == api.ErrDeep }

// sound checks P802 and P803 of a term that was told of a form.
func sound(t *testing.T, e Env, f api.Form, s string, stage int, x, a api.Tm) {
	t.Helper()
	if err := kernel.Check(e.G, stage, x, a); err != api.OK {
		t.Errorf("P802: %s: %d, %s, %s: %v", s, stage, short(x), short(a), err)
	}
	if want := saidForm(e.Names, f); saysAll(want) && !term.Same(said(x), want) {
		t.Errorf("P803: %s: %s says %s, not %s", s, short(x), short(said(x)), short(want))
	}
}

// P801, P802, P803: forms that tell their types.
func TestFormsThatTell(t *testing.T) {
	count := [2]int{}
	for seed := range uint64(6000) {
		s := inferable(1000 + seed)
		if len(s.s) > api.MaxText {
			continue
		}
		f := read(t, s.s)
		x, stage, a, err := Infer(s.e, f)
		if err == api.ErrDeep {
			continue
		}
		if err != api.OK || stage != s.stage || !term.Same(a, s.a) {
			t.Errorf("%s: %s, %d, %s, %v, not %d, %s", s.s, short(x), stage, short(a), err, s.stage, short(s.a))
			continue
		}
		count[stage]++
		sound(t, s.e, f, s.s, stage, x, a)
	}
	if count[0] < 1000 || count[1] < 1000 {
		t.Errorf("only %v", count)
	}
}

// P801, P802, P803: forms whose types are known.
func TestFormsOfKnownTypes(t *testing.T) {
	count := [2]int{}
	for seed := range uint64(6000) {
		s := checkable(20000 + seed)
		if len(s.s) > api.MaxText {
			continue
		}
		f := read(t, s.s)
		x, err := Check(s.e, f, s.stage, s.a)
		if err == api.ErrDeep {
			continue
		}
		if err != api.OK {
			t.Errorf("%s: %d, %s: %v", s.s, s.stage, short(s.a), err)
			continue
		}
		count[s.stage]++
		sound(t, s.e, f, s.s, s.stage, x, s.a)
	}
	if count[0] < 1000 || count[1] < 1000 {
		t.Errorf("only %v", count)
	}
}

// goalTypes are types, each of a stage, that forms in the room are checked against.
func goalTypes() []asked {
	return []asked{
		{"", 0, whole()}, {"", 0, fun()}, {"", 0, both()}, {"", 0, v(5)}, {"", 0, app(v(1), v(6))}, {"", 1, nat()}, {"", 1, ty()}, {"", 1, u(0)}, {"", 1, u(1)}, {"", 1, lifted(whole())}, {"", 1, lifted(fun())},
		{"", 1, lifted(both())}, {"", 1, lifted(v(5))}, {"", 1, pi(nat(), nat())}, {"", 1, pi(nat(), u(0))}, {"", 1, sig(nat(), nat())}, {"", 1, pi(nat(), app(v(8), v(0)))}, {"", 1, sig(nat(), app(v(8), v(0)))}, {"", 1, sig(u(0), v(0))},
	}
}

// P801, P802, P803: forms in whose types values stand, by hand and changed in one or two
// places, hold against the second telling.
func TestHandMadeAndChanged(t *testing.T) {
	e, d, count := dependent(), &die{77}, map[api.Errno]int{}
	stands(t, e)
	var l []api.Form
	for _, s := range handMade() {
		l = append(l, read(t, s))
	}
	for _, f := range l {
		for _, g := range goalTypes() {
			g.a = term.Shift(g.a, 1, 0) // the room has one variable less
			count[compare(t, e, f, g)]++
		}
		for range 150 {
			g := goalTypes()[d.of(len(goalTypes()))]
			g.a = term.Shift(g.a, 1, 0)
			f := d.changed(f, l)
			count[compare(t, e, f, g)]++
			count[compare(t, e, d.changed(f, l), g)]++
		}
	}
	for _, err := range []api.Errno{api.OK, api.ErrArg, api.ErrForm, api.ErrName, api.ErrStage, api.ErrType, api.ErrShape, api.ErrLevel, api.ErrScope, api.ErrGuess} {
		if count[err] < 30 {
			t.Errorf("%v: only %d", err, count[err])
		}
	}
}

// P801, P802, P803: so do typed forms, changed.
func TestTypedAndChanged(t *testing.T) {
	d, count := &die{78}, map[api.Errno]int{}
	var l []api.Form
	for _, s := range handMade() {
		l = append(l, read(t, s))
	}
	for seed := range uint64(3000) {
		s := inferable(50000 + seed)
		if seed%2 == 0 {
			s = checkable(50000 + seed)
		}
		f, g := read(t, s.s), asked{"", s.stage, s.a}
		compare(t, s.e, f, g)
		for range 6 {
			count[compare(t, s.e, d.changed(f, l), g)]++
		}
	}
	if count[api.OK] < 1000 {
		t.Errorf("only %v", count)
	}
}
