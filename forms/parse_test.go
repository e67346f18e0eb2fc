package forms

import (
	"reflect"
	"slices"
	"strings"
	"testing"
	"unsafe"

	"thyrsus/api"
	"thyrsus/lex"
)

func name(s string) api.Form      { return api.Form{Kind: api.FName, S: s} }
func num(n int) api.Form          { return api.Form{Kind: api.FNum, N: n} }
func list(l ...api.Form) api.Form { return api.Form{Kind: api.FList, L: l} }

// nest is f in so many lists, each in the next.
func nest(lists int, f ...api.Form) api.Form {
	for range lists - 1 {
		f = []api.Form{list(f...)}
	}
	return list(f...)
}

// row is forms as one list, in which no list (nil) and an empty one are the same.
func row(l []api.Form) []api.Form {
	var out []api.Form
	for _, f := range l {
		f.L = row(f.L)
		out = append(out, f)
	}
	return out
}

func same(a, b []api.Form) bool { return reflect.DeepEqual(row(a), row(b)) }

// short is what a failed test tells of a text.
func short(s string) string { return s[:min(len(s), 80)] }

func opens(n int) string { return strings.Repeat("(", n) }
func shuts(n int) string { return strings.Repeat(")", n) }

// accepted checks that a text has just these forms, and no place of a fault (P4).
func accepted(t *testing.T, s string, want ...api.Form) {
	t.Helper()
	l, at, e := Parse(s)
	if e != api.OK || at != 0 || !same(l, want) {
		t.Errorf("%q: %v, %d, %v; not %v", short(s), l, at, e, want)
	}
}

// refused checks that a text is refused so, with no forms beside it (P4).
func refused(t *testing.T, s string, at int, want api.Errno) {
	t.Helper()
	l, got, e := Parse(s)
	if e != want || got != at || len(l) != 0 {
		t.Errorf("%q: %d forms, %d, %v; not %d, %v", short(s), len(l), got, e, at, want)
	}
}

// P301: names and numbers, each with its own field alone (P4).
func TestParseLeaves(t *testing.T) {
	most := strings.Repeat("a", api.MaxName)
	for _, s := range []string{"a", "Z", "_", "'", "x1'", "->", "*", "Nat", most} {
		accepted(t, s, name(s))
	}
	for s, n := range map[string]int{"0": 0, "-0": 0, "7": 7, "-7": -7, "007": 7,
		"4611686018427387904": 1 << 62, "-4611686018427387904": -1 << 62} {
		accepted(t, s, num(n))
	}
}

// P301: a text may have no form.
func TestParseEmpty(t *testing.T) {
	for _, s := range []string{"", " ", "\t\n\r", ";", "; (a", ";)\n\n"} {
		accepted(t, s)
	}
}

// P301: any number of forms in a list, lists among them.
func TestParseLists(t *testing.T) {
	accepted(t, "()", list())
	accepted(t, "(a)", list(name("a")))
	accepted(t, "(a 1 ->)", list(name("a"), num(1), name("->")))
	accepted(t, "(())", list(list()))
	accepted(t, "(()())", list(list(), list()))
	accepted(t, "((a) b (c (d)) ())", list(list(name("a")), name("b"), list(name("c"), list(name("d"))), list()))
	accepted(t, "(-> (* a 1) -2)", list(name("->"), list(name("*"), name("a"), num(1)), num(-2)))
	accepted(t, "(fn(x Nat)x)", list(name("fn"), list(name("x"), name("Nat")), name("x")))
	accepted(t, "("+strings.Repeat("a ", 1900)+")", list(slices.Repeat([]api.Form{name("a")}, 1900)...))
}

// P301: all forms of the text, in order.
func TestParseSeveral(t *testing.T) {
	accepted(t, "a b", name("a"), name("b"))
	accepted(t, "b a", name("b"), name("a"))
	accepted(t, "1 (2) 3", num(1), list(num(2)), num(3))
	accepted(t, "()()", list(), list())
	accepted(t, "(a)b(c)", list(name("a")), name("b"), list(name("c")))
	accepted(t, " ( a ;)\n ( ) -3 ) b ;x", list(name("a"), list(), num(-3)), name("b"))
	accepted(t, strings.Repeat("()", api.MaxText/2), slices.Repeat([]api.Form{list()}, api.MaxText/2)...)
}

// P301: lex.Tokens' errors, where it has them.
func TestParseTokenErrors(t *testing.T) {
	refused(t, "+", 0, api.ErrToken)
	refused(t, "(a +)", 3, api.ErrToken)
	refused(t, "(a) -", 4, api.ErrToken)
	refused(t, "(a "+strings.Repeat("b", api.MaxName+1)+")", 3, api.ErrLong)
	refused(t, "a 4611686018427387905", 2, api.ErrLong)
	refused(t, "a -4611686018427387905", 2, api.ErrLong)
	refused(t, strings.Repeat(" ", api.MaxText+1), 0, api.ErrLong)
	accepted(t, strings.Repeat(" ", api.MaxText-1)+"a", name("a"))
}

// P301: a ')' that closes none; where it stands.
func TestParseClosesNone(t *testing.T) {
	refused(t, ")", 0, api.ErrForm)
	refused(t, " \n)", 2, api.ErrForm)
	refused(t, "a)", 1, api.ErrForm)
	refused(t, "())", 2, api.ErrForm)
	refused(t, "(a) (b) ) c", 8, api.ErrForm)
	refused(t, ";)\n)(", 3, api.ErrForm)
	refused(t, opens(maxDeep)+shuts(maxDeep+1), 2*maxDeep, api.ErrForm)
	refused(t, shuts(api.MaxText), 0, api.ErrForm)
}

// P301: a list that is open at the end; it is told at the text's length.
func TestParseOpenAtEnd(t *testing.T) {
	refused(t, "(", 1, api.ErrForm)
	refused(t, "((a)", 4, api.ErrForm)
	refused(t, "(a) (b", 6, api.ErrForm)
	refused(t, "(a \n", 4, api.ErrForm)
	refused(t, "(a ;)", 5, api.ErrForm)
	refused(t, opens(maxDeep), maxDeep, api.ErrForm)
	refused(t, opens(maxDeep)+shuts(maxDeep-1)+" ", 2*maxDeep, api.ErrForm)
	refused(t, "("+strings.Repeat(" ", api.MaxText-1), api.MaxText, api.ErrForm)
}

// P301: a '(' stands 30 deep at the most.
func TestParseDeep(t *testing.T) {
	accepted(t, opens(30)+shuts(30), nest(30))
	accepted(t, opens(30)+"a"+shuts(30), nest(30, name("a")))
	accepted(t, opens(29)+"()(a)"+shuts(29), nest(29, list(), list(name("a"))))
	accepted(t, strings.Repeat(opens(30)+shuts(30), 3), nest(30), nest(30), nest(30))
	refused(t, opens(31)+shuts(31), 30, api.ErrDeep)
	refused(t, opens(31)+"a"+shuts(31), 30, api.ErrDeep)
	refused(t, " a\n"+strings.Repeat("( ", 31)+shuts(31), 63, api.ErrDeep)
	refused(t, opens(30)+"a b () )"+shuts(29), 34, api.ErrDeep)
	refused(t, opens(29)+"() (()) "+shuts(29), 33, api.ErrDeep)
	refused(t, opens(30)+shuts(30)+opens(31)+shuts(31), 90, api.ErrDeep)
	refused(t, opens(2000)+shuts(2000), 30, api.ErrDeep)
}

// P6: the errors of tokens come first, wherever they stand.
func TestParseTokensAheadOfForms(t *testing.T) {
	refused(t, ") +", 2, api.ErrToken)
	refused(t, "(a +", 3, api.ErrToken)
	refused(t, opens(31)+shuts(31)+"+", 62, api.ErrToken)
	refused(t, ") "+strings.Repeat("9", 30), 2, api.ErrLong)
	refused(t, shuts(api.MaxText+1), 0, api.ErrLong)
	refused(t, opens(api.MaxText+1), 0, api.ErrLong)
	refused(t, "a"+shuts(api.MaxText), 0, api.ErrLong)
}

// P6: of the tokens the first one that has an error; the text's end comes behind all of them.
func TestParseFirstFault(t *testing.T) {
	refused(t, "a))", 1, api.ErrForm)
	refused(t, ")(", 0, api.ErrForm)
	refused(t, "(a))(", 3, api.ErrForm)
	refused(t, ")"+opens(31)+shuts(31), 0, api.ErrForm)
	refused(t, opens(31), 30, api.ErrDeep)
	refused(t, opens(32), 30, api.ErrDeep)
	refused(t, opens(31)+shuts(32), 30, api.ErrDeep)
}

// flat is the tokens that a row of forms was made of, without their At.
func flat(l []api.Form) []api.Token {
	var out []api.Token
	for _, f := range l {
		switch f.Kind {
		case api.FName:
			out = append(out, api.Token{Kind: api.TName, S: f.S})
		case api.FNum:
			out = append(out, api.Token{Kind: api.TNum, N: f.N})
		case api.FList:
			out = append(out, api.Token{Kind: api.TOpen})
			out = append(out, flat(f.L)...)
			out = append(out, api.Token{Kind: api.TClose})
		}
	}
	return out
}

// placeless is the tokens without their At.
func placeless(l []api.Token) []api.Token {
	l = slices.Clone(l)
	for i := range l {
		l[i].At = 0
	}
	return l
}

// firstFault is the error that Parse must answer, and where, told by counting alone.
func firstFault(s string) (int, api.Errno) {
	tokens, at, e := lex.Tokens(s)
	if e != api.OK {
		return at, e
	}
	deep := 0
	for _, x := range tokens {
		switch x.Kind {
		case api.TOpen:
			deep++
		case api.TClose:
			deep--
		}
		if deep < 0 {
			return x.At, api.ErrForm
		}
		if deep > 30 {
			return x.At, api.ErrDeep
		}
	}
	if deep > 0 {
		return len(s), api.ErrForm
	}
	return 0, api.OK
}

// asTokens checks that a text's forms have just its tokens, in order.
func asTokens(t *testing.T, s string) api.Errno {
	t.Helper()
	wantAt, want := firstFault(s)
	if want != api.OK {
		refused(t, s, wantAt, want)
		return want
	}
	tokens, _, _ := lex.Tokens(s)
	l, at, e := Parse(s)
	if e != api.OK || at != 0 || !slices.Equal(flat(l), placeless(tokens)) {
		t.Errorf("%q: %v, %d, %v", short(s), l, at, e)
	}
	for _, f := range l {
		if Check(f) != api.OK {
			t.Errorf("%q: %v is refused", short(s), f)
		}
	}
	return api.OK
}

// P301, P1: all texts of up to six of a few bytes.
func TestParseAllShortTexts(t *testing.T) {
	texts := []string{""}
	for range 7 {
		var longer []string
		for _, s := range texts {
			asTokens(t, s)
			for _, b := range "() a1+" {
				longer = append(longer, s+string(b))
			}
		}
		texts = longer
	}
}

// P301, P1: any pieces in any order, deep ones among them.
func TestParseAnyText(t *testing.T) {
	d := &die{5}
	pieces := []string{"(", "(", "(((", opens(14), ")", ")", ")))", "()", "(a 1)", " x ", " -7 ", "->", "*", " ;)\n"}
	seen := map[api.Errno]int{}
	for range 20000 {
		var s string
		for range d.of(24) {
			s += pieces[d.of(len(pieces))]
		}
		if d.of(4) > 0 { // most of them closed, so that enough are accepted
			s += shuts(max(0, strings.Count(s, "(")-strings.Count(strings.ReplaceAll(s, ";)", ""), ")")))
		}
		seen[asTokens(t, s)]++
	}
	for _, e := range []api.Errno{api.OK, api.ErrForm, api.ErrDeep} {
		if seen[e] < 500 {
			t.Errorf("only %d texts of %v", seen[e], e)
		}
	}
}

// P2: names are no pieces of the text that was handed in.
func TestParseNamesAreNewMemory(t *testing.T) {
	s := strings.Repeat("(name -> *) other ", 3)
	from := uintptr(unsafe.Pointer(unsafe.StringData(s)))
	l, _, _ := Parse(s)
	for _, x := range flat(l) {
		if p := uintptr(unsafe.Pointer(unsafe.StringData(x.S))); from <= p && p < from+uintptr(len(s)) {
			t.Errorf("%q is a piece of the text", x.S)
		}
	}
}

// rooms adds each list of forms, its spare room too, by where it begins and ends.
func rooms(l []api.Form, out [][2]uintptr) [][2]uintptr {
	if cap(l) > 0 {
		from := uintptr(unsafe.Pointer(unsafe.SliceData(l)))
		out = append(out, [2]uintptr{from, from + uintptr(cap(l))*unsafe.Sizeof(api.Form{})})
	}
	for _, f := range l {
		out = rooms(f.L, out)
	}
	return out
}

// P2: no two lists of one answer share memory, nor those of two answers.
func TestParseListsApart(t *testing.T) {
	s := "(a (b c) (d (e) (f g h)) i) j (k) ((l) ((m n o) p) q) () r"
	one, _, _ := Parse(s)
	two, _, _ := Parse(s)
	all := rooms(two, rooms(one, nil))
	slices.SortFunc(all, func(a, b [2]uintptr) int {
		if a[0] < b[0] {
			return -1
		}
		return 1
	})
	for i := 1; i < len(all); i++ {
		if all[i][0] < all[i-1][1] {
			t.Errorf("lists %d and %d of %d share memory", i-1, i, len(all))
		}
	}
	if len(all) < 20 {
		t.Errorf("only %d lists", len(all))
	}
}

// P2, P3: an answer does not hang on what was done to another one.
func TestParseAnswersApart(t *testing.T) {
	s := "(a (b) 1) c"
	want := []api.Form{list(name("a"), list(name("b")), num(1)), name("c")}
	one, _, _ := Parse(s)
	two, _, _ := Parse(s)
	for _, l := range [][]api.Form{one[0].L[1].L, one[0].L, one} {
		l = l[:cap(l)]
		for i := range l {
			l[i] = num(99)
		}
	}
	three, _, _ := Parse(s)
	if !same(two, want) || !same(three, want) {
		t.Errorf("%v, %v; not %v", two, three, want)
	}
}
