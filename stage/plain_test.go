package stage

import (
	"math"
	"testing"

	"thyrsus/api"
	"thyrsus/term"
)

// codeOps and metaOps are the Ops that may and that may not be in plain object code.
func codeOps() []int {
	return []int{api.Var, api.TInt, api.TFun, api.TPro, api.OLam, api.OApp, api.OPair, api.OFst, api.OSnd, api.OInt, api.OPrim, api.OIf, api.OLet, api.OFix}
}

func metaOps() []int {
	return []int{api.U, api.Pi, api.Lam, api.App, api.Sig, api.Pair, api.Fst, api.Snd, api.Nat, api.Zero, api.Suc, api.Rec, api.Ty, api.Lift, api.Quo, api.Spl}
}

// isPlain checks what Plain tells.
func isPlain(t *testing.T, x api.Tm, want bool) {
	t.Helper()
	if Plain(x) != want {
		t.Errorf("%s: not %v", short(x), want)
	}
}

// P1001: each Op by itself, whatever its number.
func TestPlainOps(t *testing.T) {
	if n := len(codeOps()) + len(metaOps()); n != 30 {
		t.Fatalf("%d Ops", n)
	}
	for _, op := range codeOps() {
		isPlain(t, node(op, i(1)), true)
		isPlain(t, node(op, v(0)), true)
	}
	for _, op := range metaOps() {
		isPlain(t, node(op, i(1)), false)
		isPlain(t, node(op, v(0)), false)
	}
	for _, n := range []int{0, 1, 17, 3000} {
		isPlain(t, v(n), true)
	}
	for _, n := range []int{0, 1, -1, math.MaxInt, math.MinInt} {
		isPlain(t, i(n), true)
	}
	for p := api.PAdd; p <= api.PLes; p++ {
		isPlain(t, prim(p, i(1), i(2)), true)
		isPlain(t, prim(p, zero(), i(2)), false)
	}
	for n := range 3 {
		isPlain(t, u(n), false)
		isPlain(t, num(n), false)
	}
}

// P1001: each Op below each plain one, as each of its kids, and deeper down.
func TestPlainBelow(t *testing.T) {
	inner := map[bool][]int{true: codeOps(), false: metaOps()}
	for _, outer := range codeOps() {
		for kid := range kidsByOp()[outer] {
			for want, ops := range inner {
				for _, op := range ops {
					x := node(op, v(1))
					isPlain(t, replaced(node(outer, i(3)), kid, x), want)
					for range 5 {
						x = replaced(node(outer, i(3)), kid, x)
					}
					isPlain(t, x, want)
					isPlain(t, oLam(tFun(whole(), whole()), oPair(i(1), oIf(v(0), i(2), x))), want)
				}
			}
		}
	}
}

// P1001: below what is meta, nothing makes it plain.
func TestPlainBelowMeta(t *testing.T) {
	for _, op := range metaOps() {
		for _, x := range codeOps() {
			isPlain(t, node(op, node(x, i(1))), false)
		}
	}
}

// P1001: terms as deep and as great as may be.
func TestPlainOfGreatTerms(t *testing.T) {
	for _, x := range []struct {
		t    api.Tm
		want bool
	}{{i(1), true}, {v(0), true}, {quo(i(1)), false}, {zero(), false}, {spl(v(0)), false}} {
		deep := x.t
		for k := range 118 {
			deep = []api.Tm{oFst(deep), oSnd(deep), oLam(whole(), deep), plus(i(1), deep), oIf(i(0), i(0), deep), oApp(deep, i(1))}[k%6]
		}
		if e := term.Check(deep); e != api.OK {
			t.Fatalf("%v", e)
		}
		isPlain(t, deep, x.want)
		isPlain(t, oIf(sized(1500), sized(1497), x.t), x.want)
		isPlain(t, oIf(x.t, sized(1497), sized(1500)), x.want)
	}
	isPlain(t, sized(3000), true)
	isPlain(t, oPair(sized(2900), oLam(nat(), v(0))), false)
}

// P1001: terms of all kinds, against the second telling.
func TestPlainAgainstTheSecondTelling(t *testing.T) {
	seen := map[bool]int{}
	d := &die{7}
	for range 4000 {
		x := d.plain(1 + d.of(7))
		isPlain(t, x, true)
		for range d.of(3) {
			x = d.mutated(x)
		}
		want := len(metas(x)) == 0
		isPlain(t, x, want)
		seen[want]++
	}
	if seen[true] < 1000 || seen[false] < 1000 {
		t.Errorf("only %v", seen)
	}
}

// plain is any plain term.
func (d *die) plain(deep int) api.Tm {
	op := codeOps()[d.of(len(codeOps()))]
	if deep == 1 {
		op = []int{api.Var, api.TInt, api.OInt}[d.of(3)]
	}
	x := of(op)
	if op == api.Var || op == api.OInt || op == api.OPrim {
		x.N = d.of(5)
	}
	for range kidsByOp()[op] {
		x.Kids = append(x.Kids, d.plain(deep-1))
	}
	return x
}

// P1001: Ops that are none are no object code's.
func TestPlainOfNoOps(t *testing.T) {
	for _, op := range []int{0, -1, -2, -31, 31, 32, 33, 33 + 31, 1<<32 + api.OInt, 1 << 40, math.MinInt, math.MinInt + api.OInt, math.MaxInt} {
		isPlain(t, of(op), false)
		isPlain(t, of(op, i(1)), false)
		isPlain(t, oLam(whole(), plus(i(1), of(op))), false)
	}
	isPlain(t, api.Tm{}, false)
	isPlain(t, api.Tm{Op: api.OInt, Kids: []api.Tm{}}, true)
}
