package forms

import (
	"reflect"
	"strings"
	"testing"

	"thyrsus/api"
)

// checked checks what Check answers of a form: by itself, and where it stands in lists.
func checked(t *testing.T, f api.Form, want api.Errno) {
	t.Helper()
	for i, g := range []api.Form{f, list(f), list(name("a"), f, name("b")), nest(maxDeep-1, list(), f)} {
		if e := Check(g); e != want {
			t.Errorf("%d: %v: %v, not %v", i, short(Text(g)), e, want)
		}
	}
}

// plain checks what Check answers of a form where it stands.
func plain(t *testing.T, f api.Form, want api.Errno) {
	t.Helper()
	if e := Check(f); e != want {
		t.Errorf("%v, not %v", e, want)
	}
}

// P301: three kinds are some.
func TestCheckKinds(t *testing.T) {
	checked(t, name("a"), api.OK)
	checked(t, num(0), api.OK)
	checked(t, list(), api.OK)
	for _, k := range []int{0, -1, 4, 5, 255, 257, 1 << 32, 1<<32 + 1, -1 << 63, 1<<63 - 1} {
		checked(t, api.Form{Kind: k}, api.ErrForm)
		checked(t, api.Form{Kind: k, S: "a"}, api.ErrForm)
		checked(t, api.Form{Kind: k, L: []api.Form{name("a")}}, api.ErrForm)
	}
}

// P301, W4: 1 to 20 bytes, or one of the two signs.
func TestCheckNames(t *testing.T) {
	for n := range 50 {
		want := api.ErrForm
		if 1 <= n && n <= 20 {
			want = api.OK
		}
		checked(t, name(strings.Repeat("a", n)), want)
		checked(t, name(strings.Repeat("Z_'0", 20)[:n]), want)
	}
	for _, s := range []string{"->", "*", "_", "'", "''", "a1", "A'", "_9", "fn", "U2"} {
		checked(t, name(s), api.OK)
	}
	for _, s := range []string{"", "1", "1a", "0_", "-", "-1", ">", "**", "->->", "a->", "->a", "*a", "a*", "- >", "(", ")", "()", "(a)",
		"a b", " a", "a ", "a\n", "\na", ";", "a;", "a;b", ";a\na", "a-", "a-1", "a+", "ä", "a\x00", "\x00", "\xff",
		strings.Repeat(" ", 4000), strings.Repeat("a", 5000), "a" + strings.Repeat(" ", 3999), "a" + strings.Repeat(" ", 4000)} {
		checked(t, name(s), api.ErrForm)
	}
}

// P301, W4: each byte as the first of a name, and behind another one.
func TestCheckEachByteOfNames(t *testing.T) {
	for b := range 256 {
		c := string([]byte{byte(b)})
		letter := 'a' <= b && b <= 'z' || 'A' <= b && b <= 'Z' || b == '_' || b == '\''
		digit := '0' <= b && b <= '9'
		want := map[bool]api.Errno{true: api.OK, false: api.ErrForm}
		checked(t, name(c), want[letter || c == "*"])
		checked(t, name(c+"a"), want[letter])
		checked(t, name("a"+c), want[letter || digit])
		checked(t, name("a"+c+"a"), want[letter || digit])
	}
}

// P301: from -2^62 to 2^62.
func TestCheckNumbers(t *testing.T) {
	for _, n := range []int{0, 1, -1, 40, 1<<62 - 1, 1 << 62, -1<<62 + 1, -1 << 62} {
		checked(t, num(n), api.OK)
	}
	for _, n := range []int{1<<62 + 1, 1<<62 + 2, 1<<63 - 1, -1<<62 - 1, -1<<62 - 2, -1<<63 + 1, -1 << 63} {
		checked(t, num(n), api.ErrForm)
	}
}

// P301: a list stands 30 deep at the most.
func TestCheckDeep(t *testing.T) {
	for n := 1; n < 40; n++ {
		want := api.OK
		if n > 30 {
			want = api.ErrDeep
		}
		plain(t, nest(n), want)
		plain(t, nest(n, name("a")), want)
		plain(t, nest(n, num(1), name("a")), want)
		plain(t, list(name("a"), nest(1), nest(n-1), name("b")), want)
	}
	plain(t, list(nest(29), nest(29), nest(29)), api.OK)
	plain(t, list(nest(29), nest(29), nest(30)), api.ErrDeep)
	plain(t, nest(29, list(), list(), name("a"), list()), api.OK)
	plain(t, nest(29, list(), list(list()), list()), api.ErrDeep)
}

// P301, P6: each list ahead of what is in it, in order: the first error on that way.
func TestCheckOrder(t *testing.T) {
	bad, deep := name(""), nest(30)
	plain(t, list(bad, deep), api.ErrForm)
	plain(t, list(deep, bad), api.ErrDeep)
	plain(t, list(list(bad), deep), api.ErrForm)
	plain(t, list(name("a"), list(num(1), list(bad)), deep), api.ErrForm)
	plain(t, list(name("a"), nest(29), deep, list(bad)), api.ErrDeep)
	plain(t, list(nest(29), num(1<<62+1), deep), api.ErrForm)
	plain(t, list(nest(29, bad), deep), api.ErrForm)
	plain(t, list(nest(29), list(nest(29)), api.Form{}), api.ErrDeep)
	plain(t, nest(31, bad), api.ErrDeep)
	plain(t, nest(31, api.Form{}), api.ErrDeep)
	plain(t, nest(30, bad, list()), api.ErrForm)
	plain(t, nest(30, list(), bad), api.ErrDeep)
	plain(t, nest(30, list(bad)), api.ErrDeep)
}

// P301: fields that the form's kind does not have are not looked at.
func TestCheckOtherFields(t *testing.T) {
	for _, f := range []api.Form{
		{Kind: api.FName, S: "a", N: 1<<63 - 1, L: []api.Form{{}}},
		{Kind: api.FNum, N: 1, S: "+", L: []api.Form{{}, nest(40)}},
		{Kind: api.FList, N: -1 << 63, S: "+"},
	} {
		checked(t, f, api.OK)
	}
}

// P301: up to 2^16 forms, in one list and in many.
func TestCheckMany(t *testing.T) {
	wide := list(make([]api.Form, 1<<16-1)...)
	for i := range wide.L {
		wide.L[i] = num(i)
	}
	plain(t, wide, api.OK)
	wide.L[len(wide.L)-1] = name("")
	plain(t, wide, api.ErrForm)
	wide.L[len(wide.L)-1] = deepest(31)
	plain(t, wide, api.ErrDeep)
	tree := num(1)
	for range 15 {
		tree = list(tree, tree)
	}
	plain(t, tree, api.OK)
}

// deepest is lists in lists, made from the inside out, without calls that call themselves.
func deepest(lists int) api.Form {
	f := list()
	for range lists - 1 {
		f = list(f)
	}
	return f
}

// endless is a list that holds itself.
func endless() api.Form {
	l := make([]api.Form, 2)
	l[0] = name("a")
	l[1] = list(l...)
	l[1].L = l
	return list(l...)
}

// P1, P301: it ends, however deep the lists are.
func TestCheckEnds(t *testing.T) {
	plain(t, deepest(1<<16), api.ErrDeep)
	plain(t, deepest(1<<22), api.ErrDeep)
	plain(t, endless(), api.ErrDeep)
}

// spared is a copy of a form, each list with spare room that is filled with marks.
func spared(f api.Form) api.Form {
	if f.L == nil {
		return f
	}
	l := make([]api.Form, 0, len(f.L)+3)
	for _, g := range f.L {
		l = append(l, spared(g))
	}
	whole := l[:cap(l)]
	for i := len(l); i < cap(l); i++ {
		whole[i] = name("mark")
	}
	f.L = l
	return f
}

// opened is a form with the spare room of its lists as parts of them.
func opened(f api.Form) api.Form {
	f.L = append([]api.Form(nil), f.L[:cap(f.L)]...)
	for i := range f.L {
		f.L[i] = opened(f.L[i])
	}
	return f
}

// P2: a form that is handed in stays as it is, its spare room too.
func TestFormsStayAsTheyAre(t *testing.T) {
	d := &die{17}
	forms := []api.Form{list(name("a"), list(), name("")), nest(31, name("a")), list(nest(30), num(1))}
	for range 300 {
		forms = append(forms, d.form(5))
	}
	for _, f := range forms {
		f = spared(f)
		want := opened(f)
		Check(f)
		Text(f)
		if !reflect.DeepEqual(opened(f), want) {
			t.Errorf("%v: changed", want)
		}
	}
}
