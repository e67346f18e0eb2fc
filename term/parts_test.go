package term

import (
	"math"
	"strconv"
	"testing"

	"thyrsus/api"
)

// die throws, the same each time.
type die struct{ n uint64 }

func (d *die) next() uint64 {
	d.n ^= d.n << 13
	d.n ^= d.n >> 7
	d.n ^= d.n << 17
	return d.n
}

func (d *die) of(k int) int { return int(d.next() % uint64(k)) }

// number is one that an Op may have.
func (d *die) number(op int) int {
	switch op {
	case api.Var:
		return d.of(8)
	case api.U:
		return d.of(3)
	case api.OPrim:
		return d.of(5)
	case api.OInt:
		return int(d.next()) >> d.of(64)
	}
	return 0
}

// term is one of any Ops, at most so deep.
func (d *die) term(deep int) api.Tm {
	op := 1 + d.of(30)
	if deep == 1 || d.of(4) == 0 {
		op = []int{api.Var, api.Var, api.Var, api.Var, api.U, api.OInt, api.Zero}[d.of(7)]
	}
	x := api.Tm{Op: op, N: d.number(op)}
	for range kidsByOp()[op] {
		x.Kids = append(x.Kids, d.term(deep-1))
	}
	return x
}

// terms are many, of all Ops.
func terms(t *testing.T, seed uint64, count, deep int) []api.Tm {
	t.Helper()
	d := &die{seed}
	var l []api.Tm
	for range count {
		x := d.term(deep)
		if e := Check(x); e != api.OK {
			t.Fatalf("%s: %v", Text(x), e)
		}
		l = append(l, x)
	}
	return l
}

// free adds the numbers of all free variables, counted from outside.
func free(x api.Tm, under int, out []int) []int {
	if x.Op == api.Var && x.N >= under {
		return append(out, x.N-under)
	}
	for i, kid := range x.Kids {
		out = free(kid, under+bound(x.Op, i), out)
	}
	return out
}

func size(x api.Tm) int {
	sum := 1
	for _, kid := range x.Kids {
		sum += size(kid)
	}
	return sum
}

// P403: nodes.
func TestSize(t *testing.T) {
	for op, n := range kidsByOp() {
		if got := Size(of(op, leaves(n)...)); got != n+1 {
			t.Errorf("Op %d: %d, not %d", op, got, n+1)
		}
	}
	for _, n := range []int{1, 2, 3, 10, 2999, 3000} {
		if got := Size(sized(n)); got != n {
			t.Errorf("%d, not %d", got, n)
		}
	}
	if got := Size(sucs(119, v(3000))); got != 120 {
		t.Errorf("%d, not 120", got)
	}
	for _, x := range terms(t, 3, 500, 6) {
		if got := Size(x); got != size(x) {
			t.Errorf("%s: %d, not %d", Text(x), got, size(x))
		}
	}
}

// inEach is x as each kid of each Op, with how many binders are ahead of it.
func inEach(x api.Tm, see func(y api.Tm, under int)) {
	for op, n := range kidsByOp() {
		for kid := range n {
			l := leaves(n)
			l[kid] = x
			see(of(op, l...), bound(op, kid))
		}
	}
}

// P403: variables that are bound, free, at the bound itself, by each kind of binder.
func TestFreeAndBelowAtBinders(t *testing.T) {
	for n := range 6 {
		inEach(v(n), func(y api.Tm, under int) {
			for k := -3; k < 8; k++ {
				if got, want := Free(y, k), n >= under && n-under == k; got != want {
					t.Errorf("Free(%s, %d): %t", Text(y), k, got)
				}
				if got, want := Below(y, k), n < under || n-under < k; got != want {
					t.Errorf("Below(%s, %d): %t", Text(y), k, got)
				}
			}
		})
	}
}

// P403: one free variable below many binders.
func TestFreeAndBelowDeep(t *testing.T) {
	x := v(3000)
	for range 118 {
		x = of(api.Rec, of(api.Nat), of(api.Zero), x, of(api.Zero))
	}
	top := 3000 - 2*118
	for _, n := range []int{-1, 0, top - 1, top, top + 1, 3000, 1 << 40, math.MinInt, math.MaxInt} {
		if Free(x, n) != (n == top) || Below(x, n) != (n > top) {
			t.Errorf("%d: %t, %t", n, Free(x, n), Below(x, n))
		}
	}
	for _, n := range []int{0, 3000, 3001, math.MaxInt} {
		if Free(v(3000), n) != (n == 3000) || Below(v(3000), n) != (n > 3000) {
			t.Errorf("%d", n)
		}
	}
}

// P403: a closed term has no free variable, and is below all numbers.
func TestFreeAndBelowClosed(t *testing.T) {
	for _, x := range []api.Tm{of(api.Zero), numbered(api.U, 1), numbered(api.OInt, 5), of(api.Lam, of(api.Nat), v(0)),
		of(api.Rec, v(0), of(api.Zero), of(api.App, v(0), v(1)), of(api.Zero))} {
		for _, n := range []int{-1, 0, 1, 5, 3000, math.MinInt, math.MaxInt} {
			if Free(x, n) || !Below(x, n) {
				t.Errorf("%s, %d: %t, %t", Text(x), n, Free(x, n), Below(x, n))
			}
		}
	}
}

// P403: any terms, against a list of all that are free.
func TestFreeAndBelowAny(t *testing.T) {
	for _, x := range terms(t, 5, 1000, 5) {
		most := math.MinInt // of none: below all
		in := map[int]int{}
		for _, n := range free(x, 0, nil) {
			in[n]++
			most = max(most, n)
		}
		for n := -2; n < 12; n++ {
			if Free(x, n) != (in[n] > 0) || Below(x, n) != (most < n) {
				t.Errorf("%s, %d: %t, %t", Text(x), n, Free(x, n), Below(x, n))
			}
		}
	}
}

// changed calls see with x changed at each of its nodes, in one thing each time.
func changed(x api.Tm, see func(api.Tm)) {
	see(api.Tm{Op: x.Op + 1, N: x.N, Kids: x.Kids})
	see(api.Tm{Op: x.Op, N: x.N + 1, Kids: x.Kids})
	see(api.Tm{Op: x.Op, N: x.N, Kids: append([]api.Tm{v(0)}, x.Kids...)})
	see(api.Tm{Op: x.Op, N: x.N, Kids: append(append([]api.Tm{}, x.Kids...), v(0))})
	if n := len(x.Kids); n > 0 {
		see(api.Tm{Op: x.Op, N: x.N, Kids: x.Kids[:n-1]})
	}
	for i := range x.Kids {
		changed(x.Kids[i], func(kid api.Tm) {
			l := append([]api.Tm{}, x.Kids...)
			l[i] = kid
			see(api.Tm{Op: x.Op, N: x.N, Kids: l})
		})
	}
}

// copied is a copy of x, no list (nil) being an empty one there.
func copied(x api.Tm) api.Tm {
	out := api.Tm{Op: x.Op, N: x.N, Kids: []api.Tm{}}
	for _, kid := range x.Kids {
		out.Kids = append(out.Kids, copied(kid))
	}
	return out
}

// P403: all counts, Ops, numbers and kids.
func TestSame(t *testing.T) {
	for _, x := range terms(t, 7, 300, 5) {
		if !Same(x, x) || !Same(x, copied(x)) || !Same(copied(x), x) {
			t.Errorf("%s: not the same as itself", Text(x))
		}
		changed(x, func(y api.Tm) {
			if Same(x, y) || Same(y, x) {
				t.Errorf("%s: the same as %s", Text(x), Text(y))
			}
		})
	}
	a, b := of(api.App, v(0), v(1)), of(api.App, v(1), v(0))
	if Same(a, b) || Same(numbered(api.OInt, 1), numbered(api.OInt, 1+1<<32)) || Same(v(1), numbered(api.U, 1)) {
		t.Error("taken for the same")
	}
	if !Same(sized(3000), sized(3000)) || !Same(sucs(119, v(3000)), sucs(119, v(3000))) || Same(sucs(119, v(3000)), sucs(119, v(2999))) {
		t.Error("of the greatest")
	}
}

// P403: Text's shapes, the document's example ahead of the others.
func TestText(t *testing.T) {
	for want, x := range map[string]api.Tm{
		"(12 11)":                  of(api.Suc, of(api.Zero)),
		"v0":                       v(0),
		"v3000":                    v(3000),
		"U0":                       numbered(api.U, 0),
		"U2":                       numbered(api.U, 2),
		"i0":                       numbered(api.OInt, 0),
		"i-7":                      numbered(api.OInt, -7),
		"i9223372036854775807":     numbered(api.OInt, math.MaxInt),
		"i-9223372036854775808":    numbered(api.OInt, math.MinInt),
		"10":                       of(api.Nat),
		"11":                       of(api.Zero),
		"14":                       of(api.Ty),
		"15":                       of(api.TInt),
		"(26/0 i1 i-2)":            numbered(api.OPrim, api.PAdd, numbered(api.OInt, 1), numbered(api.OInt, -2)),
		"(26/4 v0 v1)":             numbered(api.OPrim, api.PLes, v(0), v(1)),
		"(3 10 (4 10 v0))":         of(api.Pi, of(api.Nat), of(api.Lam, of(api.Nat), v(0))),
		"(7 (6 10 10) 11 (12 11))": of(api.Pair, of(api.Sig, of(api.Nat), of(api.Nat)), of(api.Zero), of(api.Suc, of(api.Zero))),
		"(13 10 v0 (5 v1 v0) 11)":  of(api.Rec, of(api.Nat), v(0), of(api.App, v(1), v(0)), of(api.Zero)),
		"(30 (19 (27 i0 i1 i2)))":  of(api.Spl, of(api.Quo, of(api.OIf, numbered(api.OInt, 0), numbered(api.OInt, 1), numbered(api.OInt, 2)))),
	} {
		if got := Text(x); got != want {
			t.Errorf("%s, not %s", got, want)
		}
	}
}

// P403: Text of each Op.
func TestTextOfEachOp(t *testing.T) {
	letters := map[int]string{api.Var: "v0", api.U: "U0", api.OInt: "i0"}
	for op, n := range kidsByOp() {
		want := strconv.Itoa(op)
		if letters[op] != "" {
			want = letters[op]
		}
		if op == api.OPrim {
			want += "/0"
		}
		for range n {
			want += " 11"
		}
		if n > 0 {
			want = "(" + want + ")"
		}
		if got := Text(of(op, leaves(n)...)); got != want {
			t.Errorf("%s, not %s", got, want)
		}
	}
}

// P403: two terms have one text just where they are the same.
func TestTextTellsApart(t *testing.T) {
	seen := map[string]api.Tm{}
	for _, x := range terms(t, 11, 5000, 3) {
		s := Text(x)
		if y, ok := seen[s]; ok && !Same(x, y) {
			t.Errorf("%s: of %v and of %v", s, x, y)
		}
		seen[s] = x
	}
	if len(seen) < 1000 {
		t.Errorf("only %d texts", len(seen))
	}
}
