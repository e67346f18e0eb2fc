package run

import (
	"math"
	"strconv"
	"strings"
	"testing"

	"thyrsus/api"
)

// says checks a value's text.
func says(t *testing.T, v api.Val, want string) {
	t.Helper()
	if got := Text(v); got != want {
		t.Errorf("%s, not %s", cut(got), cut(want))
	}
}

// P1202: numbers, pairs of two, and all else.
func TestText(t *testing.T) {
	one, two := vInt(1), vInt(-2)
	for _, x := range []struct {
		v    api.Val
		want string
	}{
		{one, "1"}, {two, "-2"}, {vInt(0), "0"}, {vInt(10), "10"}, {vInt(99), "99"}, {vInt(100), "100"}, {vInt(math.MaxInt), "9223372036854775807"}, {vInt(math.MinInt), "-9223372036854775808"},
		{vFun(), "fn"}, {vPair(one, two), "(1, -2)"}, {vPair(two, one), "(-2, 1)"}, {vPair(vPair(one, two), two), "((1, -2), -2)"}, {vPair(one, vPair(two, one)), "(1, (-2, 1))"}, {vPair(vPair(one, two), vPair(two, two)), "((1, -2), (-2, -2))"},
		{vPair(vFun(), vFun()), "(fn, fn)"}, {vPair(one, vPair(vFun(), two)), "(1, (fn, -2))"},
	} {
		says(t, x.v, x.want)
	}
}

// P1202: fields that a kind does not have tell nothing.
func TestTextOfOtherFields(t *testing.T) {
	one := vInt(1)
	for _, l := range [][]api.Val{nil, {}, {{}}, {one}, {one, one}, {one, one, one}, {vFun(), vPair(one, one)}} {
		says(t, api.Val{Kind: api.VInt, N: -4, L: l}, "-4")
		says(t, api.Val{Kind: api.VFun, N: 7, L: l}, "fn")
		says(t, vPair(api.Val{Kind: api.VInt, N: 5, L: l}, api.Val{Kind: api.VFun, L: l}), "(5, fn)")
	}
	says(t, api.Val{Kind: api.VPair, N: 3, L: []api.Val{one, one}}, "(1, 1)")
	says(t, api.Val{Kind: api.VPair, N: -1, L: []api.Val{{Kind: api.VPair, N: api.VInt, L: []api.Val{one, one}}, one}}, "((1, 1), 1)")
}

// P1202: a pair of not just two, and what is of no kind, at any depth.
func TestTextOfOthers(t *testing.T) {
	one := vInt(1)
	l := []api.Val{{}, vFun(), vPair(), {Kind: api.VPair, L: []api.Val{}}, vPair(one), vPair(one, one, one), vPair(one, one, one, one), vPair(vPair(one, one)), {Kind: api.VPair, N: 2}}
	for _, kind := range []int{-1, 4, 9, 22, 25, math.MaxInt, math.MinInt, 1<<32 + 1, 1<<32 + 2, 257, 258} {
		l = append(l, api.Val{Kind: kind}, api.Val{Kind: kind, N: 5}, api.Val{Kind: kind, N: 1, L: []api.Val{one, one}})
	}
	for _, x := range l {
		says(t, x, "fn")
		says(t, vPair(x, one), "(fn, 1)")
		says(t, vPair(one, x), "(1, fn)")
		says(t, vPair(x, x), "(fn, fn)")
		says(t, vPair(vPair(one, one), vPair(one, vPair(x, one))), "((1, 1), (1, (fn, 1)))")
		for _, n := range []int{17, 5000} {
			says(t, inARow(n, true, x), strings.Repeat("(", n)+"fn"+strings.Repeat(", 1)", n))
			says(t, inARow(n, false, x), strings.Repeat("(1, ", n)+"fn"+strings.Repeat(")", n))
		}
	}
}

// inARow is a value of so many pairs, each in the one before it, x in the last.
func inARow(n int, left bool, x api.Val) api.Val {
	for range n {
		if left {
			x = vPair(x, vInt(1))
		} else {
			x = vPair(vInt(1), x)
		}
	}
	return x
}

// read is a second telling: it calls itself.
func read(v api.Val) string {
	switch {
	case v.Kind == api.VInt:
		return strconv.FormatInt(int64(v.N), 10)
	case v.Kind == api.VPair && len(v.L) == 2:
		return strings.Join([]string{"(", read(v.L[0]), ", ", read(v.L[1]), ")"}, "")
	}
	return "fn"
}

// anyValue is some value, or what is none.
func (d *die) anyValue(deep int) api.Val {
	v := api.Val{Kind: []int{api.VPair, api.VPair, api.VPair, api.VInt, api.VFun, d.of(6) - 1}[d.of(6)], N: int(d.next()) >> d.of(64)}
	if deep == 0 {
		return v
	}
	for range []int{2, 2, 2, 2, 2, 2, d.of(4)}[d.of(7)] {
		v.L = append(v.L, d.anyValue(deep-1))
	}
	return v
}

// P1202: all kinds of values, against the second telling; a pair's text is made of those of its parts.
func TestTextOfAny(t *testing.T) {
	d := &die{5}
	long := 0
	for range 20000 {
		v := d.anyValue(d.of(8))
		says(t, v, read(v))
		w := d.anyValue(d.of(3))
		says(t, vPair(v, w), "("+Text(v)+", "+Text(w)+")")
		if len(Text(v)) > 50 {
			long++
		}
	}
	if long < 1000 {
		t.Errorf("only %d", long)
	}
}

// P1202: deep values, to the left, to the right, and by turns.
func TestTextOfDeepValues(t *testing.T) {
	for _, n := range []int{100, 1<<16 - 1, 1 << 16, 1 << 20} {
		says(t, inARow(n, true, vInt(0)), strings.Repeat("(", n)+"0"+strings.Repeat(", 1)", n))
		says(t, inARow(n, false, vInt(0)), strings.Repeat("(1, ", n)+"0"+strings.Repeat(")", n))
		x := vFun()
		for range n / 2 {
			x = vPair(vPair(vInt(2), x), vInt(3))
		}
		says(t, x, strings.Repeat("((2, ", n/2)+"fn"+strings.Repeat("), 3)", n/2))
	}
}

// P1202: broad values, whose parts are of their own, or in many places.
func TestTextOfBroadValues(t *testing.T) {
	shared, want := vInt(7), "7"
	for range 20 {
		shared = vPair(shared, shared)
		want = "(" + want + ", " + want + ")"
	}
	says(t, shared, want)
	says(t, broad(1<<20, 7), want)
	says(t, vPair(api.Val{Kind: api.VPair, L: make([]api.Val, 1<<20)}, shared), "(fn, "+want+")")
	says(t, api.Val{Kind: api.VInt, N: 3, L: make([]api.Val, 1<<20)}, "3")
}

// broad is a value of n numbers, as flat as may be.
func broad(n, x int) api.Val {
	if n == 1 {
		return vInt(x)
	}
	return vPair(broad(n/2, x), broad(n-n/2, x))
}

// P1202: lists that are parts of one another: no value holds itself, though each holds what stands in one memory.
func TestTextOfListsWithinOneAnother(t *testing.T) {
	for n := 3; n < 25; n++ {
		all := make([]api.Val, n)
		for k := range all {
			all[k] = vInt(k)
			if k+2 < n {
				all[k] = api.Val{Kind: api.VPair, L: all[k+1 : k+3]}
			}
		}
		says(t, all[0], read(all[0]))
	}
	const pairs = 1 << 16
	row := make([]api.Val, 2*pairs+2)
	for k := range pairs {
		row[2*k] = api.Val{Kind: api.VPair, L: row[2*k+2 : 2*k+4]}
		row[2*k+3] = vInt(4)
	}
	says(t, row[0], strings.Repeat("(", pairs)+"fn"+strings.Repeat(", 4)", pairs))
}
