package shape

import (
	"reflect"
	"strings"
	"testing"

	"thyrsus/api"
	"thyrsus/forms"
)

// all are the words of chapter 8.
const all = "U0 U1 U2 Nat zero Ty Int fn pi sig -> * pair fst snd suc rec lift quote splice add sub mul div less if let fix the def"

// read is a text's one form.
func read(t testing.TB, s string) api.Form {
	t.Helper()
	l, at, e := forms.Parse(s)
	if e != api.OK || len(l) != 1 {
		t.Fatalf("%s: %d forms, %v at %d", s, len(l), e, at)
	}
	return l[0]
}

func TestWords(t *testing.T) {
	for _, s := range strings.Fields(all) {
		if !Word(s) {
			t.Errorf("%s: no word", s)
		}
	}
	for _, s := range []string{"", "U", "U3", "u0", "nat", "Zero", "ty", "int", "Fn", "fn'", "_fn", "fnn", "f", "->>", "-", "**", "defs", "de", "x", "1", "Suc", " fn", "call"} {
		if Word(s) {
			t.Errorf("%s: a word", s)
		}
	}
}

// good are lists of each row of the table, of each kind of bound names.
func good() []string {
	return []string{
		"(fn (x A) b)", "(fn x b)", "(pi (x A) B)", "(sig (x A) B)", "(-> A B)", "(* A B)", "(pair a b)", "(fst p)", "(snd p)", "(suc n)", "(rec (x P) z (n h s) m)", "(lift A)", "(quote t)", "(splice t)",
		"(add a b)", "(sub a b)", "(mul a b)", "(div a b)", "(less a b)", "(if c a b)", "(let (x t) b)", "(fix (x A) b)", "(the A t)",
	}
}

func TestHeads(t *testing.T) {
	for _, s := range good() {
		l := read(t, s).L
		if w, ok := Head(l); w != l[0].S || !ok {
			t.Errorf("%s: %q, %v", s, w, ok)
		}
		for n := range len(l) + 3 {
			var m []api.Form
			for k := range n {
				m = append(m, l[min(k, len(l)-1)])
			}
			if w, ok := Head(m); ok != (n == len(l)) || !ok && w != "" {
				t.Errorf("%s: of %d: %q, %v", s, n, w, ok)
			}
		}
	}
	for _, s := range []string{"(f a)", "(f a b c)", "((fn x x) a)", "(() ())", "((5) 1)", "((zero n) fn)", "(U3 fn)", "(f 1 () zero)"} {
		if w, ok := Head(read(t, s).L); w != "" || !ok {
			t.Errorf("%s: %q, %v", s, w, ok)
		}
	}
	for _, s := range []string{"()", "(f)", "(5)", "(5 a)", "(-1 a b)", "(fn)", "((f a))", "(def x 1)", "(def x Nat 1)", "(def x)", "(U0 a)", "(U1 a)", "(U2 a)", "(Nat a)", "(zero a)", "(Ty a)", "(Int a)", "(zero a b)", "(zero)"} {
		if w, ok := Head(read(t, s).L); w != "" || ok {
			t.Errorf("%s: %q, %v", s, w, ok)
		}
	}
}

// Where a name must stand no word may, nor a number, a list; anywhere else all may.
func TestPartsOfLists(t *testing.T) {
	names := []string{"(fn (% A) b)", "(fn % b)", "(pi (% A) B)", "(sig (% A) B)", "(rec (% P) z (n h s) m)", "(rec (x P) z (% h s) m)", "(rec (x P) z (n % s) m)", "(let (% t) b)", "(fix (% A) b)"}
	rest := []string{"(fn (x %) %)", "(fn x %)", "(pi (x %) %)", "(sig (x %) %)", "(-> % %)", "(* % %)", "(pair % %)", "(fst %)", "(snd %)", "(suc %)", "(rec (x %) % (n h %) %)", "(lift %)", "(quote %)", "(splice %)", "(add % %)", "(if % % %)", "(let (x %) %)", "(fix (x %) %)", "(the % %)", "(f % %)"}
	none := append(strings.Fields(all), "1", "-1", "()", "(x)", "((x A))", "(x A B)", "(1 A)", "(zero A)", "((x) A)")
	for _, w := range none {
		for _, s := range names {
			if got, ok := Head(read(t, strings.ReplaceAll(s, "%", w)).L); got != "" || ok {
				t.Errorf("%s: %s: %q, %v", s, w, got, ok)
			}
		}
	}
	for _, w := range append(none, "f", "(fn (1 2) 3)") {
		for _, s := range rest {
			if _, ok := Head(read(t, strings.ReplaceAll(s, "%", w)).L); !ok {
				t.Errorf("%s: %s", s, w)
			}
		}
	}
	for _, s := range []string{"(pi % B)", "(sig % B)", "(rec % z (n h s) m)", "(let % b)", "(fix % b)"} {
		for _, w := range append(none, "x") {
			if _, ok := Head(read(t, strings.ReplaceAll(s, "%", w)).L); ok {
				t.Errorf("%s: %s", s, w)
			}
		}
	}
	for _, w := range append(none, "x", "(n h)", "(n h s m)", "(n (h) s)", "((n h) s)") {
		if w == "(x A B)" {
			continue // two names and a form, as rec has it
		}
		if _, ok := Head(read(t, "(rec (x P) z "+w+" m)").L); ok {
			t.Errorf("%s", w)
		}
	}
}

// Fields that a kind does not have are not looked at.
func TestFieldsOfOtherKinds(t *testing.T) {
	x, a := api.Form{Kind: api.FName, S: "x"}, api.Form{Kind: api.FName, S: "A"}
	list := func(l ...api.Form) api.Form { return api.Form{Kind: api.FList, S: "suc", N: 3, L: l} }
	if w, ok := Head([]api.Form{list(x, a), x, a}); w != "" || !ok {
		t.Errorf("%q, %v", w, ok)
	}
	for _, kind := range []int{api.FName, api.FNum} {
		step := []api.Form{{Kind: api.FName, S: "rec"}, {Kind: api.FList, L: []api.Form{x, a}}, a, {Kind: kind, S: "zero", L: []api.Form{x, a, a}}, a}
		if got, ok := Head(step); got != "" || ok {
			t.Errorf("%q, %v", got, ok)
		}
		typed := api.Form{Kind: kind, S: "zero", L: []api.Form{x, a}}
		for _, w := range []string{"fn", "pi", "let"} {
			if got, ok := Head([]api.Form{{Kind: api.FName, S: w}, typed, a}); got != "" || ok {
				t.Errorf("%s: %q, %v", w, got, ok)
			}
		}
	}
}

// All that forms.Check tells, and ErrDeep of more forms than it tells anything of.
func TestCheck(t *testing.T) {
	row := api.Form{Kind: api.FList, L: make([]api.Form, 1<<16-1)}
	for k := range row.L {
		row.L[k] = api.Form{Kind: api.FNum, N: k}
	}
	self := make([]api.Form, 2)
	self[0], self[1] = api.Form{Kind: api.FNum}, api.Form{Kind: api.FList, L: self}
	shared, deep := api.Form{Kind: api.FNum}, api.Form{Kind: api.FNum}
	for range 29 {
		shared = api.Form{Kind: api.FList, L: []api.Form{shared, shared}}
	}
	for range 31 {
		deep = api.Form{Kind: api.FList, L: []api.Form{deep}}
	}
	for _, x := range []struct {
		f    api.Form
		want api.Errno
	}{
		{row, api.OK}, {api.Form{Kind: api.FList, L: []api.Form{row}}, api.ErrDeep}, {api.Form{Kind: api.FList, L: self}, api.ErrDeep}, {shared, api.ErrDeep}, {deep, api.ErrDeep}, {deep.L[0], api.OK},
		{api.Form{}, api.ErrForm}, {api.Form{Kind: api.FName, S: "1a"}, api.ErrForm}, {api.Form{Kind: api.FName, S: "->"}, api.OK}, {api.Form{Kind: api.FNum, N: 1<<62 + 1}, api.ErrForm}, {api.Form{Kind: api.FList, L: []api.Form{{Kind: 4}}}, api.ErrForm},
	} {
		if got := Check(x.f); got != x.want {
			t.Errorf("%d forms: %v, not %v", len(x.f.L), got, x.want)
		}
	}
}

// P1, P2, P3: whatever is handed in, calls end, answer the same, and change nothing.
func TestWhateverIsHandedIn(t *testing.T) {
	self := make([]api.Form, 3)
	for k := range self {
		self[k] = api.Form{Kind: api.FList, L: self}
	}
	self[0] = api.Form{Kind: api.FName, S: "rec"}
	for _, l := range [][]api.Form{nil, {}, self, make([]api.Form, 5), {{Kind: -1}, {Kind: 9, S: "fn"}}, {{Kind: api.FName, S: "fn"}, {}, {}}, {{Kind: 7, S: "fn"}, {}, {}}} {
		w, ok := Head(l)
		if w2, ok2 := Head(l); w != w2 || ok != ok2 {
			t.Errorf("%d: not the same", len(l))
		}
	}
	for _, s := range good() {
		f, same := read(t, s), read(t, s)
		Head(f.L)
		if Check(f) != api.OK || !reflect.DeepEqual(f, same) {
			t.Errorf("%s: changed", s)
		}
	}
}
