package elab

import (
	"strings"
	"testing"

	"thyrsus/api"
)

// good are lists that may be told, one of each row; `%` is a place in which any form may stand.
func good() []string {
	return []string{
		"(fn (k %Nat%) %k%)", "(fn (y %Int%) %y%)", "(pi (k %Nat%) %Nat%)", "(sig (k %Nat%) %Nat%)", "(-> %Nat% %Nat%)", "(* %Nat% %Nat%)", "(-> %Int% %Int%)", "(* %Int% %Int%)", "(pair %1% %2%)", "(fst %c%)", "(snd %p%)", "(suc %n%)",
		"(rec (k %Nat%) %0% (a h %h%) %n%)", "(lift %Int%)", "(quote %x%)", "(splice %q%)", "(add %1% %2%)", "(sub %1% %2%)", "(mul %1% %2%)", "(div %1% %2%)", "(less %1% %2%)", "(if %1% %2% %3%)", "(let (y %1%) %y%)", "(fix (y %Int%) %y%)", "(the %Nat% %1%)", "(the %Int% %1%)",
		"(f %n%)", "(inc %1%)", "((fn (k Nat) (fn (j %Nat%) %k%)) %1% %2%)", "((quote %inc%) %q%)", "((the (pi (A U0) (-> A A)) %(fn A (fn y y))%) %Nat% %1%)",
	}
}

// places are what stands between a text's marks, and what else: one more than those.
func places(s string) (between, other []string) {
	for k, part := range strings.Split(s, "%") {
		if k%2 == 1 {
			between = append(between, part)
		} else {
			other = append(other, part)
		}
	}
	return between, other
}

// filled is a text in whose places others stand.
func filled(between, other []string) string {
	s := other[0]
	for k, part := range between {
		s += part + other[k+1]
	}
	return s
}

// P801: each list of one part more or less is none.
func TestListsOfOtherLengths(t *testing.T) {
	e := room()
	for _, s := range good() {
		f := read(t, strings.ReplaceAll(s, "%", ""))
		if _, _, _, err := Infer(e, f); err != api.OK {
			t.Errorf("%s: %v", s, err)
		}
		for n := 0; n <= len(f.L)+2; n++ {
			l := make([]api.Form, 0, n)
			for k := range n {
				l = append(l, f.L[min(k, len(f.L)-1)])
			}
			_, _, _, err := Infer(e, api.Form{Kind: api.FList, L: l})
			word := f.L[0].Kind == api.FName && isWord(f.L[0].S)
			if none := n < 2 || word && n != len(f.L); none && err != api.ErrForm || !none && err == api.ErrForm {
				t.Errorf("%s: of %d: %v", s, n, err)
			}
			if _, err2 := Check(e, api.Form{Kind: api.FList, L: l}, 1, nat()); err == api.ErrForm && err2 != api.ErrForm {
				t.Errorf("%s: of %d: Check: %v", s, n, err2)
			}
		}
	}
}

// P801: what begins no list.
func TestListsOfOtherHeads(t *testing.T) {
	for _, s := range []string{"()", "(n)", "(zz)", "(5)", "(-1 n)", "(5 n)", "(0 zz)", "(U0 n)", "(U1 n)", "(U2 n)", "(Nat n)", "(Nat)", "(zero n)", "(Ty n)", "(Int 1)", "(Int)", "(def n 1)", "(def (n Nat) 1)", "(def n)", "((n))", "(())", "((f n))", "(zero)", "((5 n) n)", "((zero n) n)", "(() n)", "(fn)", "(->)", "(the)"} {
		refused(t, room(), s, api.ErrForm)
		fails(t, room(), s, 1, nat(), api.ErrForm)
		fails(t, room(), s, 0, whole(), api.ErrForm)
		fails(t, room(), s, 1, lifted(whole()), api.ErrForm)
	}
}

// P801: where a name must stand, no word may, nor a number, a list; and what holds a name must be a list, of so many.
func TestNamesThatAreNone(t *testing.T) {
	var none []string
	for _, w := range []string{"U0", "U1", "U2", "Nat", "zero", "Ty", "Int", "fn", "pi", "sig", "->", "*", "pair", "fst", "snd", "suc", "rec", "lift", "quote", "splice", "add", "sub", "mul", "div", "less", "if", "let", "fix", "the", "def", "1", "-1", "()", "(x)", "(x Nat)"} {
		none = append(none, w)
	}
	for _, w := range none {
		for _, s := range []string{"(fn (% Nat) 1)", "(fn (% Int) 1)", "(pi (% Nat) Nat)", "(sig (% Nat) Nat)", "(rec (% Nat) 0 (a h h) 0)", "(rec (k Nat) 0 (% h 0) 0)", "(rec (k Nat) 0 (a % 0) 0)", "(let (% 1) 1)", "(fix (% Int) 1)"} {
			s = strings.ReplaceAll(s, "%", w)
			refused(t, room(), s, api.ErrForm)
			fails(t, room(), s, 1, pi(nat(), nat()), api.ErrForm)
		}
		if w != "(x Nat)" {
			refused(t, room(), "(fn "+w+" 1)", api.ErrForm)
			for stage := range 2 {
				fails(t, room(), "(fn "+w+" 1)", stage, tFun(whole(), whole()), api.ErrForm)
				fails(t, room(), "(fn "+w+" 1)", stage, nat(), api.ErrForm)
			}
		}
	}
	for _, x := range []string{"x", "1", "()", "(x)", "(x Nat Nat)", "((x Nat))", "(x (x Nat) 1)", "Nat"} {
		for _, s := range []string{"(pi % Nat)", "(sig % Nat)", "(rec % 0 (a h h) 0)", "(let % 1)", "(fix % 1)"} {
			refused(t, room(), strings.ReplaceAll(s, "%", x), api.ErrForm)
		}
		if x != "x" {
			refused(t, room(), "(fn "+x+" 1)", api.ErrForm)
		}
	}
	for _, x := range []string{"h", "1", "()", "(h)", "(a h)", "(a h h h)", "((a h) h)", "(a (h h))"} {
		refused(t, room(), "(rec (k Nat) 0 "+x+" 0)", api.ErrForm)
	}
}

// P801: a list that is none is so ahead of all that is in it, but behind what stands ahead of it.
func TestShapesComeFirst(t *testing.T) {
	for _, s := range []string{"(fn (zero zz) U2)", "(fn (x zz U2) zz)", "(fn zero zz)", "(pi (1 zz) U2)", "(rec (k zz) zz (a h) zz)", "(rec (k zz) zz (a zero zz) zz)", "(let (the zz) zz)", "(fix zz U2)", "(pair zz)", "(if zz zz)", "(if zz zz zz zz)", "(5 zz)", "(zero zz)", "(add zz)", "(the zz)", "(-> zz)", "(suc zz zz)"} {
		refused(t, room(), s, api.ErrForm)
		for _, a := range []api.Tm{nat(), lifted(whole()), pi(nat(), nat())} {
			fails(t, room(), s, 1, a, api.ErrForm)
		}
		fails(t, room(), s, 0, whole(), api.ErrForm)
	}
	refused(t, room(), "(add zz ())", api.ErrName)
	refused(t, room(), "(add () zz)", api.ErrForm)
	refused(t, room(), "(zz ())", api.ErrName)
	refused(t, room(), "(fn x ())", api.ErrGuess)
	refused(t, room(), "(pair n ())", api.ErrGuess)
	refused(t, room(), "(the n ())", api.ErrShape)
}

// P801: what a name or a number holds beside is not a list's.
func TestListsThatAreNone(t *testing.T) {
	x, h, nat, n := api.Form{Kind: api.FName, S: "x"}, api.Form{Kind: api.FName, S: "h"}, api.Form{Kind: api.FName, S: "Nat"}, api.Form{Kind: api.FNum}
	list := func(s string, l ...api.Form) api.Form {
		return api.Form{Kind: api.FList, L: append([]api.Form{{Kind: api.FName, S: s}}, l...)}
	}
	typed, step := api.Form{Kind: api.FList, L: []api.Form{x, nat}}, api.Form{Kind: api.FList, L: []api.Form{x, h, h}}
	for _, kind := range []int{api.FName, api.FNum} {
		as := func(f api.Form) api.Form {
			f.Kind, f.S = kind, "zero"
			return f
		}
		for _, f := range []api.Form{list("fn", as(typed), x), list("pi", as(typed), nat), list("rec", as(typed), n, step, n), list("rec", typed, n, as(step), n), list("let", as(typed), x)} {
			if _, _, _, err := Infer(Env{}, f); err != api.ErrForm {
				t.Errorf("%v", err)
			}
		}
	}
	for _, f := range []api.Form{list("fn", typed, x), list("pi", typed, nat), list("rec", typed, n, step, n)} {
		if _, _, _, err := Infer(Env{}, f); err != api.OK {
			t.Errorf("%v", err)
		}
	}
}
