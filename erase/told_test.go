package erase

import (
	"slices"
	"strconv"
	"strings"
	"testing"

	"thyrsus/api"
	"thyrsus/forms"
	"thyrsus/term"
)

// saying is a list as chapter 8's table has it, and what it says: the Op (OPrim:
// and N), the parts in their order, those that stand below others behind these
// and a slash; `_` is nobody, 0 a Zero; `=`: the part itself. Small letters x, n,
// h of a list, where its names must stand, are marked by a dot.
type saying struct{ list, says string }

func sayings() []saying {
	return []saying{
		{"(fn (.x A) b)", "4 0 x/b"}, {"(fn .x b)", "4 0 x/b"}, {"(pi (.x A) B)", "3 A x/B"}, {"(sig (.x A) B)", "6 A x/B"}, {"(-> A B)", "3 A _/B"}, {"(* A B)", "6 A _/B"}, {"(pair a b)", "7 0 a b"}, {"(fst p)", "8 p"}, {"(snd p)", "9 p"}, {"(suc n)", "12 n"},
		{"(rec (.x P) z (.n .h s) m)", "13 0 z n/h/s m"}, {"(lift A)", "18 A"}, {"(quote t)", "= t"}, {"(splice t)", "= t"}, {"(add a b)", "26/0 a b"}, {"(sub a b)", "26/1 a b"}, {"(mul a b)", "26/2 a b"}, {"(div a b)", "26/3 a b"}, {"(less a b)", "26/4 a b"},
		{"(if c a b)", "27 c a b"}, {"(let (.x t) b)", "28 t x/b"}, {"(fix (.x A) b)", "29 0 x/b"}, {"(the A t)", "= t"},
	}
}

const words8 = "U0 U1 U2 Nat zero Ty Int fn pi sig -> * pair fst snd suc rec lift quote splice add sub mul div less if let fix the def"

func isWord(s string) bool { return slices.Contains(strings.Fields(words8), s) }

// pattern is a list of the table: a name of its own at each place, marked or not.
func pattern(s string) api.Form {
	l, _, _ := forms.Parse(strings.ReplaceAll(s, ".", "name_"))
	return l[0]
}

// matches gathers what stands at a pattern's places; false: another shape.
func matches(p, f api.Form, at map[string]api.Form) bool {
	name, marked := strings.CutPrefix(p.S, "name_")
	switch {
	case p.Kind == api.FList && (f.Kind != api.FList || len(f.L) != len(p.L)):
		return false
	case p.Kind == api.FList:
		for k := range p.L {
			if !matches(p.L[k], f.L[k], at) {
				return false
			}
		}
		return true
	case marked && (f.Kind != api.FName || isWord(f.S)):
		return false
	}
	at[name] = f
	return true
}

// teller is a second telling: each row of the table held against a list, one after
// the other; variables counted where they are met, what is below nobody shifted.
type teller struct{ rows []saying }

func toldForm(names []string, f api.Form) (x api.Tm, e api.Errno) {
	defer func() {
		if r := recover(); r != nil {
			x, e = api.Tm{}, r.(api.Errno)
		}
	}()
	return teller{sayings()}.form(names, f), api.OK
}

func (w teller) form(names []string, f api.Form) api.Tm {
	switch {
	case f.Kind == api.FNum && f.N >= 0 && f.N <= 40:
		return num(f.N)
	case f.Kind == api.FNum:
		return i(f.N)
	case f.Kind == api.FName:
		return w.name(names, f.S)
	}
	if len(f.L) > 0 && f.L[0].Kind == api.FName && isWord(f.L[0].S) {
		return w.word(names, f)
	}
	if len(f.L) < 2 || f.L[0].Kind == api.FNum {
		panic(api.ErrForm)
	}
	x := w.form(names, f.L[0])
	for _, a := range f.L[1:] {
		x = of(api.App, x, w.form(names, a))
	}
	return x
}

func (w teller) name(names []string, s string) api.Tm {
	alone := map[string]string{"U0": "U0", "U1": "U1", "U2": "U2", "Nat": "10", "zero": "11", "Ty": "14", "Int": "15"}
	if alone[s] != "" {
		return leafOf(alone[s])
	}
	if isWord(s) {
		panic(api.ErrForm)
	}
	for n := range names {
		if names[len(names)-1-n] == s {
			return v(n)
		}
	}
	panic(api.ErrName)
}

// word is a list that begins with a word.
func (w teller) word(names []string, f api.Form) api.Tm {
	for _, row := range w.rows {
		at := map[string]api.Form{}
		p := pattern(row.list)
		if p.L[0].S != f.L[0].S || !matches(p, f, at) {
			continue
		}
		says := strings.Fields(row.says)
		if says[0] == "=" {
			return w.form(names, at[says[1]])
		}
		op, n, _ := strings.Cut(says[0], "/")
		x := leafOf(op)
		x.N, _ = strconv.Atoi(n)
		for _, part := range says[1:] {
			x.Kids = append(x.Kids, w.part(names, part, at))
		}
		return x
	}
	panic(api.ErrForm)
}

func (w teller) part(names []string, part string, at map[string]api.Form) api.Tm {
	l := strings.Split(part, "/")
	last := len(l) - 1
	switch {
	case part == "0":
		return of(api.Zero)
	case l[0] == "_":
		return term.Shift(w.form(names, at[l[last]]), 1, 0)
	}
	names = slices.Clone(names)
	for _, x := range l[:last] {
		names = append(names, at[x].S)
	}
	return w.form(names, at[l[last]])
}

// tells holds Form against the second telling, and tells its error.
func tells(t *testing.T, names []string, f api.Form) api.Errno {
	t.Helper()
	x, e := Form(names, f)
	y, e2 := toldForm(names, f)
	if e != e2 || !same(x, y) {
		t.Errorf("%s: %s, %v, not %s, %v", cut(forms.Text(f)), short(x), e, short(y), e2)
	}
	return e
}

// texts are forms of all kinds, that may be told where names are few, or may not.
func texts() []string {
	return []string{
		"n", "k", "zz", "U2", "fn", "->", "zero", "0", "40", "41", "-1", "(quote 1)", "(splice (quote k))", "(the zz k)", "(fn (x zz) (x n))", "(fn n (n k))", "(fn x (fn x (x n k)))", "(pi (x Nat) (pi (y x) (-> x y)))", "(sig (x k) (* x (* k x)))", "(-> n (-> k (-> n k)))",
		"(-> (-> n k) (* n (pi (x n) (-> x n))))", "(pair (pair n 1) (pair 41 k))", "(fst (snd (pair n k)))", "(suc (suc 39))", "(rec (x (F x)) n (m h (h m n)) (suc k))", "(rec (x U0) Nat (k h (-> k h)) 3)", "(rec (n n) n (n n n) n)", "(lift (-> Int (* Int Int)))", "(quote (fn (y (lift zz)) (add y (splice n))))",
		"(mul (sub n 1) (div k (less n k)))", "(if (less n 1) (pair n k) (fst n))", "(let (n k) (let (k n) (n k)))", "(fix (n (-> zz n)) (fn k (n k)))", "(the (rec ()) (the () (fn x x)))", "((fn (x Nat) (suc x)) n k)", "(n k 1 (k n) (fn x x) 41)", "((quote n) (the Nat 2))", "(let (x (fn x x)) (-> x (fix (x x) (-> x (rec (x x) x (x x x) x)))))",
		"(the (pi (A U0) (-> (-> A A) (-> A A))) (fn A (fn s (fn z (s (s z))))))", "(fn (y Int) ((the (-> Nat (-> (lift Int) (lift Int))) (fn k (fn y (rec (m (lift Int)) 1 (m r (mul y r)) k)))) 3 (quote y)))",
	}
}

// changed is a copy of a form in which one part is another one, is gone, or stands twice.
func (d *die) changed(f api.Form, others []api.Form) api.Form {
	if f.Kind != api.FList || len(f.L) == 0 || d.of(4) == 0 {
		return d.instead(f, others)
	}
	l := append([]api.Form{}, f.L...)
	at, to := d.of(len(l)), d.of(len(l))
	switch d.of(16) {
	case 0:
		l = append(l[:at], l[at+1:]...)
	case 1:
		l = append(l, l[at])
	case 2:
		l[at], l[to] = l[to], l[at]
	default:
		l[at] = d.changed(l[at], others)
	}
	return api.Form{Kind: api.FList, L: l}
}

// instead is what may stand in the place of a form.
func (d *die) instead(f api.Form, others []api.Form) api.Form {
	names, ws := []string{"n", "k", "x", "y", "n", "k", "m", "h", "zz"}, strings.Fields(words8)
	switch d.of(7) {
	case 0:
		return api.Form{Kind: api.FNum, N: []int{0, 1, 3, 40, 41, -1}[d.of(6)]}
	case 1, 2:
		return api.Form{Kind: api.FName, S: names[d.of(len(names))]}
	case 3:
		return api.Form{Kind: api.FName, S: ws[d.of(len(ws))]}
	case 4:
		w := []string{"quote", "splice", "fst", "suc", "lift"}[d.of(5)]
		return api.Form{Kind: api.FList, L: []api.Form{{Kind: api.FName, S: w}, f}}
	}
	g := others[d.of(len(others))]
	for g.Kind == api.FList && len(g.L) > 0 && d.of(3) > 0 {
		g = g.L[d.of(len(g.L))]
	}
	return g
}

// P902: forms of all kinds, and many thousands with parts changed, hold against the second telling.
func TestChangedForms(t *testing.T) {
	var l []api.Form
	for _, s := range texts() {
		l = append(l, read(t, s))
	}
	d, count, named := &die{9}, map[api.Errno]int{}, [][]string{{"n", "k", "n"}, {"n", "k"}, {"k", "zz", "x", "n", "y"}, {"h", "m", "y", "x", "k", "n", "zz", "F"}, nil}
	for _, f := range l {
		for _, names := range named {
			tells(t, names, f)
		}
		for range 400 {
			g := d.changed(f, l)
			for range d.of(3) {
				g = d.changed(g, l)
			}
			count[tells(t, named[d.of(len(named))], g)]++
		}
	}
	if count[api.OK] < 2000 || count[api.ErrForm] < 2000 || count[api.ErrName] < 2000 {
		t.Errorf("only %v", count)
	}
}
