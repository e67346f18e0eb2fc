package erase

import (
	"strconv"
	"strings"
	"testing"

	"thyrsus/api"
	"thyrsus/forms"
	"thyrsus/term"
)

func of(op int, kids ...api.Tm) api.Tm { return api.Tm{Op: op, Kids: kids} }

func v(n int) api.Tm { return api.Tm{Op: api.Var, N: n} }

func i(n int) api.Tm { return api.Tm{Op: api.OInt, N: n} }

// num is so many Sucs of Zero.
func num(n int) api.Tm {
	x := of(api.Zero)
	for range n {
		x = of(api.Suc, x)
	}
	return x
}

// nested is x in so many nodes of an Op, as the last kid of each.
func nested(n, op int, x api.Tm, ahead ...api.Tm) api.Tm {
	for range n {
		x = of(op, append(append([]api.Tm{}, ahead...), x)...)
	}
	return x
}

// tm is the term of a text, as term.Text writes it.
func tm(t testing.TB, s string) api.Tm {
	t.Helper()
	l := strings.Fields(strings.NewReplacer("(", " ( ", ")", " ) ").Replace(s))
	x, rest := tmOf(l)
	if len(rest) > 0 || term.Text(x) != s {
		t.Fatalf("%s: no term's text: %s", s, term.Text(x))
	}
	return x
}

func tmOf(l []string) (api.Tm, []string) {
	if l[0] != "(" {
		return leafOf(l[0]), l[1:]
	}
	head, n, _ := strings.Cut(l[1], "/")
	x := leafOf(head)
	x.N, _ = strconv.Atoi(n)
	l = l[2:]
	for l[0] != ")" {
		var kid api.Tm
		kid, l = tmOf(l)
		x.Kids = append(x.Kids, kid)
	}
	return x, l[1:]
}

func leafOf(s string) api.Tm {
	op := map[byte]int{'v': api.Var, 'U': api.U, 'i': api.OInt}[s[0]]
	if op == 0 {
		op, _ = strconv.Atoi(s)
		return of(op)
	}
	n, _ := strconv.Atoi(s[1:])
	return api.Tm{Op: op, N: n}
}

// read is a text's one form.
func read(t testing.TB, s string) api.Form {
	t.Helper()
	l, at, e := forms.Parse(s)
	if e != api.OK || len(l) != 1 {
		t.Fatalf("%s: %d forms, %v at %d", s, len(l), e, at)
	}
	return l[0]
}

func empty(x api.Tm) bool { return x.Op == 0 && x.N == 0 && len(x.Kids) == 0 }

// short is a term's text, or the beginning of it.
func short(x api.Tm) string { return cut(term.Text(x)) }

func cut(s string) string {
	if len(s) > 300 {
		s = s[:300] + " .."
	}
	return s
}

// same holds two terms of any size against each other.
func same(a, b api.Tm) bool {
	if a.Op != b.Op || a.N != b.N || len(a.Kids) != len(b.Kids) {
		return false
	}
	for k := range a.Kids {
		if !same(a.Kids[k], b.Kids[k]) {
			return false
		}
	}
	return true
}

// nodes counts those of a term of any size.
func nodes(x api.Tm) int {
	n := 1
	for _, kid := range x.Kids {
		n += nodes(kid)
	}
	return n
}

// die throws, the same each time.
type die struct{ n uint64 }

func (d *die) next() uint64 {
	d.n ^= d.n << 13
	d.n ^= d.n >> 7
	d.n ^= d.n << 17
	return d.n
}

func (d *die) of(k int) int { return int(d.next() % uint64(k)) }

// kids is how many each Op has.
func kids(op int) int {
	for n := range 5 {
		x := of(op)
		for range n {
			x.Kids = append(x.Kids, v(0))
		}
		if term.Check(x) == api.OK {
			return n
		}
	}
	return -1
}

// anyTerm is one of all Ops, typed or not, with some variables that are free.
func (d *die) anyTerm(deep, under int) api.Tm {
	op := api.Var + d.of(api.Spl)
	if deep == 0 && kids(op) > 0 {
		op = []int{api.Var, api.Var, api.OInt, api.U, api.Nat, api.Zero, api.Ty, api.TInt}[d.of(8)]
	}
	x := of(op)
	switch op {
	case api.Var:
		x.N = d.of(under + 4)
	case api.U:
		x.N = d.of(3)
	case api.OPrim:
		x.N = d.of(5)
	case api.OInt:
		x.N = []int{0, 1, 2, 3, 40, 41, -1, 1 << 62}[d.of(8)]
	}
	for k := range kids(op) {
		x.Kids = append(x.Kids, d.anyTerm(deep-1, under+term.Binders(op, k)))
	}
	return x
}
