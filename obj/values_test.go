package obj

import (
	"math"
	"reflect"
	"testing"

	"thyrsus/api"
	"thyrsus/term"
)

func vInt(n int) api.Val { return api.Val{Kind: api.VInt, N: n} }

func vPair(l ...api.Val) api.Val { return api.Val{Kind: api.VPair, L: l} }

func vFun() api.Val { return api.Val{Kind: api.VFun} }

// holds checks what Fits tells.
func holds(t *testing.T, v api.Val, a api.Tm, want bool) {
	t.Helper()
	if Fits(v, a) != want {
		t.Errorf("%v, %s: not %v", v, short(a), want)
	}
}

// P1102: each kind of value against each of type.
func TestFits(t *testing.T) {
	l := []struct {
		v api.Val
		a api.Tm
	}{
		{vInt(3), whole()}, {vFun(), f()}, {vPair(vInt(1), vInt(2)), p()}, {vPair(vFun(), vInt(2)), tPro(f(), whole())}, {vPair(vInt(2), vFun()), tPro(whole(), f())}, {vPair(vFun(), vFun()), tPro(f(), f())},
		{vPair(vPair(vInt(1), vFun()), vInt(2)), tPro(tPro(whole(), f()), whole())}, {vPair(vInt(2), vPair(vInt(1), vFun())), tPro(whole(), tPro(whole(), f()))},
		{vPair(vPair(vInt(1), vInt(2)), vPair(vInt(3), vInt(4))), tPro(p(), p())}, {vPair(vPair(vInt(1), vInt(2)), vInt(3)), tPro(p(), whole())}, {vPair(vInt(1), vPair(vInt(2), vInt(3))), tPro(whole(), p())},
	}
	for k, x := range l {
		for m, y := range l {
			holds(t, x.v, y.a, k == m)
		}
	}
	for _, n := range []int{0, 1, -1, math.MaxInt, math.MinInt} {
		holds(t, vInt(n), whole(), true)
		holds(t, vInt(n), f(), false)
		holds(t, vPair(vInt(n), vInt(-n)), p(), true)
	}
	for _, a := range []api.Tm{f(), tFun(p(), whole()), tFun(whole(), f()), tFun(f(), tPro(f(), p()))} { // any function's type
		holds(t, vFun(), a, true)
		holds(t, vPair(vFun(), vFun()), tPro(a, f()), true)
		holds(t, vPair(vFun(), vFun()), tPro(f(), a), true)
		holds(t, vInt(0), a, false)
		holds(t, vPair(vFun(), vFun()), a, false)
	}
	holds(t, api.Val{Kind: api.VInt, L: []api.Val{}}, whole(), true) // an empty list is none
	holds(t, api.Val{Kind: api.VFun, L: []api.Val{}}, f(), true)
}

// misfits are values that are of no type.
func misfits() []api.Val {
	one := vInt(1)
	l := []api.Val{{}, {Kind: api.VInt, N: 1, L: []api.Val{one}}, {Kind: api.VInt, L: []api.Val{{}}}, {Kind: api.VInt, L: []api.Val{one, one}},
		{Kind: api.VPair}, vPair(one), vPair(one, one, one), vPair(vPair(one, one)), {Kind: api.VPair, N: 1, L: []api.Val{one, one}}, {Kind: api.VPair, N: -1, L: []api.Val{one, one}}, {Kind: api.VPair, N: 2}, vPair(vFun(), vFun(), vFun(), vFun()),
		{Kind: api.VFun, N: 1}, {Kind: api.VFun, N: -1}, {Kind: api.VFun, L: []api.Val{one}}, {Kind: api.VFun, L: []api.Val{vFun(), vFun()}}}
	for _, kind := range []int{0, -1, 4, 5, 15, 16, 17, math.MaxInt, math.MinInt} {
		l = append(l, api.Val{Kind: kind}, api.Val{Kind: kind, N: 1}, api.Val{Kind: kind, L: []api.Val{one, one}})
	}
	return l
}

// P1102: values of a shape that no value of a type has fit nothing, and no pair with them does.
func TestMisfits(t *testing.T) {
	types := []api.Tm{whole(), f(), p(), tPro(f(), f()), tPro(p(), p()), tPro(whole(), p()), tFun(p(), p())}
	for _, v := range misfits() {
		for _, a := range types {
			holds(t, v, a, false)
			for _, b := range types {
				holds(t, vPair(v, vInt(1)), tPro(a, whole()), false)
				holds(t, vPair(vInt(1), v), tPro(whole(), a), false)
				holds(t, vPair(vFun(), vPair(v, vFun())), tPro(f(), tPro(a, f())), false)
				holds(t, vPair(vPair(vFun(), v), vInt(1)), tPro(tPro(b, a), whole()), false)
			}
		}
	}
}

// nested is a value that is so deep, on the one side or on the other, x standing deepest; and its type.
func nested(n int, left bool, x api.Val, a api.Tm) (api.Val, api.Tm) {
	for range n - 1 {
		if left {
			x, a = vPair(x, vInt(1)), tPro(a, whole())
		} else {
			x, a = vPair(vFun(), x), tPro(f(), a)
		}
	}
	return x, a
}

// P1102: deep in pairs, on either side.
func TestFitsDeepDown(t *testing.T) {
	for _, left := range []bool{true, false} {
		for _, n := range []int{1, 2, 3, 50, 119} {
			v, a := nested(n, left, vInt(7), whole())
			_, b := nested(n, left, vFun(), f())
			_, c := nested(n+1, left, vFun(), f())
			holds(t, v, a, true)
			holds(t, v, b, false)
			holds(t, v, c, false)
			for _, x := range append(misfits(), vFun(), vPair(vInt(1), vInt(2))) {
				w, _ := nested(n, left, x, a)
				holds(t, w, a, false)
			}
		}
	}
}

// ofType is a value of a type.
func (d *die) ofType(a api.Tm) api.Val {
	switch a.Op {
	case api.TInt:
		return vInt(d.of(100) - 50)
	case api.TFun:
		return vFun()
	}
	return vPair(d.ofType(a.Kids[0]), d.ofType(a.Kids[1]))
}

// typeText is the text of the types of a value, any function's part being "f":
// a second telling, for values of a type.
func typeText(v api.Val) string {
	switch v.Kind {
	case api.VInt:
		return "i"
	case api.VFun:
		return "f"
	}
	return "(" + typeText(v.L[0]) + typeText(v.L[1]) + ")"
}

func shapeText(a api.Tm) string {
	switch a.Op {
	case api.TInt:
		return "i"
	case api.TFun:
		return "f"
	}
	return "(" + shapeText(a.Kids[0]) + shapeText(a.Kids[1]) + ")"
}

// P1102: values of some types against others.
func TestFitsAgainstTheSecondTelling(t *testing.T) {
	d := &die{23}
	seen := map[bool]int{}
	for range 20000 {
		a, b := d.anyType(3), d.anyType(3)
		v := d.ofType(a)
		holds(t, v, a, true)
		want := typeText(v) == shapeText(b)
		holds(t, v, b, want)
		seen[want]++
	}
	if seen[true] < 1000 || seen[false] < 1000 {
		t.Errorf("only %v", seen)
	}
}

// P1102: as great types and values as may be.
func TestFitsOfGreatOnes(t *testing.T) {
	d := &die{29}
	for _, a := range []api.Tm{tys(2999), chain(120), chain(119)} {
		v := d.ofType(a)
		holds(t, v, a, true)
		holds(t, vPair(v, v), a, false)
	}
	v, _ := nested(30000, false, vFun(), f()) // as great as a value may be
	_, a := nested(119, false, vInt(1), whole())
	holds(t, v, a, false)
	holds(t, v, whole(), false)
	holds(t, v, f(), false)
	v, _ = nested(30000, true, vFun(), f())
	holds(t, v, p(), false)
}

// quoted checks what Quote tells: a text, "" for a value that has no term.
func quoted(t *testing.T, v api.Val, want string) {
	t.Helper()
	x, ok := Quote(v)
	if got := term.Text(x); ok != (want != "") || ok && got != want || !ok && !empty(x) {
		t.Errorf("%s, %v, not %s", cut(got), ok, cut(want))
	}
}

// P1102: numbers and pairs of such have a term; their other fields tell nothing.
func TestQuote(t *testing.T) {
	one, two := vInt(1), vInt(-2)
	for _, x := range []struct {
		v    api.Val
		want string
	}{
		{one, "i1"}, {two, "i-2"}, {vInt(0), "i0"}, {vInt(math.MaxInt), "i9223372036854775807"}, {vInt(math.MinInt), "i-9223372036854775808"},
		{vPair(one, two), "(22 i1 i-2)"}, {vPair(two, one), "(22 i-2 i1)"}, {vPair(vPair(one, two), two), "(22 (22 i1 i-2) i-2)"}, {vPair(one, vPair(two, one)), "(22 i1 (22 i-2 i1))"}, {vPair(vPair(one, two), vPair(two, two)), "(22 (22 i1 i-2) (22 i-2 i-2))"},
		{api.Val{Kind: api.VInt, N: 7, L: []api.Val{one}}, "i7"}, {api.Val{Kind: api.VInt, N: 7, L: []api.Val{vFun(), {}}}, "i7"}, {api.Val{Kind: api.VPair, N: 9, L: []api.Val{one, two}}, "(22 i1 i-2)"}, {api.Val{Kind: api.VInt, L: []api.Val{}}, "i0"},
	} {
		quoted(t, x.v, x.want)
	}
}

// P1102: a value with a function, a pair of not just two, a value of no kind, at any depth has none.
func TestNoQuote(t *testing.T) {
	one := vInt(1)
	l := []api.Val{vFun(), {Kind: api.VFun, N: 1}, {Kind: api.VFun, L: []api.Val{one, one}}, {Kind: api.VPair}, vPair(one), vPair(one, one, one), vPair(one, one, one, one), {Kind: api.VPair, N: 2}}
	for _, kind := range []int{0, -1, 4, 22, 25, math.MaxInt, math.MinInt} {
		l = append(l, api.Val{Kind: kind}, api.Val{Kind: kind, N: 1, L: []api.Val{one, one}})
	}
	for _, x := range l {
		quoted(t, x, "")
		quoted(t, vPair(x, one), "")
		quoted(t, vPair(one, x), "")
		quoted(t, vPair(vPair(one, one), vPair(one, vPair(x, one))), "")
		for _, left := range []bool{true, false} {
			deep := x
			for range 1000 {
				if left {
					deep = vPair(deep, one)
				} else {
					deep = vPair(one, deep)
				}
			}
			quoted(t, deep, "")
		}
	}
}

// P1102: a value's term has the type that the value fits, of numbers and pairs, and the same numbers in it.
func TestQuotesHaveTheType(t *testing.T) {
	d := &die{37}
	seen := 0
	for range 4000 {
		a := d.anyType(4)
		v := d.ofType(a)
		x, ok := Quote(v)
		if want := !hasFun(v); ok != want {
			t.Errorf("%v: %v", v, ok)
		}
		if !ok {
			continue
		}
		seen++
		if b, e := Infer(nil, x); e != api.OK || !term.Same(a, b) {
			t.Errorf("%s: %s, %v, not %s", short(x), short(b), e, short(a))
		}
		if w := valueOf(x); !reflect.DeepEqual(v, w) {
			t.Errorf("%s: %v, not %v", short(x), w, v)
		}
	}
	if seen < 500 {
		t.Errorf("only %d", seen)
	}
}

func hasFun(v api.Val) bool {
	for _, part := range v.L {
		if hasFun(part) {
			return true
		}
	}
	return v.Kind == api.VFun
}

// valueOf reads a value's term back.
func valueOf(x api.Tm) api.Val {
	if x.Op == api.OInt {
		return vInt(x.N)
	}
	return vPair(valueOf(x.Kids[0]), valueOf(x.Kids[1]))
}

// P1102: values as great as may be.
func TestQuotesOfGreatValues(t *testing.T) {
	full := vInt(1) // 2^16 - 1 nodes
	for range 15 {
		full = vPair(full, full)
	}
	for _, v := range []api.Val{full, inARow(32767, true), inARow(32767, false)} {
		x, ok := Quote(v)
		if !ok || nodes(x) != 1<<16-1 {
			t.Errorf("%v, %d nodes", ok, nodes(x))
		}
	}
}

// inARow is a value of so many pairs, each in the one before it.
func inARow(n int, left bool) api.Val {
	x := vInt(1)
	for k := range n {
		if left {
			x = vPair(x, vInt(k))
		} else {
			x = vPair(vInt(k), x)
		}
	}
	return x
}

func nodes(x api.Tm) int {
	n := 1
	for _, kid := range x.Kids {
		n += nodes(kid)
	}
	return n
}
