package obj

import (
	"math"
	"strings"
	"testing"

	"thyrsus/api"
	"thyrsus/term"
)

// isA checks what Type tells.
func isA(t *testing.T, x api.Tm, want bool) {
	t.Helper()
	if Type(x) != want {
		t.Errorf("%s: not %v", short(x), want)
	}
}

// P1101: types, nested either way.
func TestTypes(t *testing.T) {
	for _, a := range []api.Tm{
		whole(), f(), p(), tFun(f(), whole()), tFun(whole(), f()), tPro(p(), whole()), tPro(whole(), p()), tFun(p(), whole()), tPro(whole(), f()), tFun(tPro(f(), p()), tPro(p(), f())),
		tys(2999), chain(120), chain(2), {Op: api.TInt, Kids: []api.Tm{}},
	} {
		isA(t, a, true)
	}
	d := &die{3}
	for range 1000 {
		isA(t, d.anyType(6), true)
	}
}

// P1101: one part of another Op, anywhere.
func TestNoTypes(t *testing.T) {
	for _, op := range inOrder() {
		if op == api.TInt || op == api.TFun || op == api.TPro {
			continue
		}
		for _, x := range []api.Tm{filled(op, whole()), filled(op, v(0)), filled(op, i(1)), filled(op, nat())} {
			isA(t, x, false)
			for _, outer := range []int{api.TFun, api.TPro} {
				for kid := range 2 {
					y := replaced(filled(outer, f()), kid, x)
					isA(t, y, false)
					isA(t, tFun(y, whole()), false)
					isA(t, tPro(whole(), tFun(f(), y)), false)
				}
			}
			deep := x
			for k := range 117 {
				deep = []api.Tm{tFun(whole(), deep), tPro(deep, whole())}[k%2]
			}
			isA(t, deep, false)
		}
	}
	for n := range 5 {
		isA(t, v(n), false)
		isA(t, i(n), false)
		isA(t, tFun(whole(), v(n)), false)
	}
}

// onlyTypes is a second telling of Type, of a term: by the heads in its text.
func onlyTypes(x api.Tm) bool {
	for _, s := range strings.Fields(strings.NewReplacer("(", " ", ")", " ").Replace(term.Text(x))) {
		if s != "15" && s != "16" && s != "17" {
			return false
		}
	}
	return true
}

// P1101: types with nodes that are others, against the second telling.
func TestTypesAgainstTheSecondTelling(t *testing.T) {
	d := &die{11}
	seen := map[bool]int{}
	for range 6000 {
		x := d.anyType(5)
		for range d.of(3) {
			x = d.mutated(x)
		}
		isA(t, x, onlyTypes(x))
		seen[onlyTypes(x)]++
	}
	if seen[true] < 1000 || seen[false] < 1000 {
		t.Errorf("only %v", seen)
	}
}

// P1101: what is no term is no type.
func TestTypesThatAreNoTerms(t *testing.T) {
	for _, x := range []api.Tm{
		{}, of(0), of(-1), of(31), of(math.MinInt), of(math.MaxInt), of(1<<32 + api.TInt), of(api.TInt, whole()), of(api.TFun), of(api.TFun, whole()), of(api.TFun, whole(), whole(), whole()), of(api.TPro), of(api.TPro, whole()), of(api.TPro, whole(), whole(), whole()),
		numbered(api.TInt, 1), numbered(api.TFun, -1, whole(), whole()), numbered(api.TPro, 1, whole(), whole()), tys(3001), tys(4001), chain(121), chain(300),
	} {
		isA(t, x, false)
		isA(t, tFun(whole(), x), false)
		isA(t, tPro(x, f()), false)
	}
}
