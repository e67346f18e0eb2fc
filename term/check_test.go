package term

import (
	"math"
	"testing"

	"thyrsus/api"
)

func of(op int, kids ...api.Tm) api.Tm { return api.Tm{Op: op, Kids: kids} }

func numbered(op, n int, kids ...api.Tm) api.Tm { return api.Tm{Op: op, N: n, Kids: kids} }

func v(n int) api.Tm { return api.Tm{Op: api.Var, N: n} }

// leaves are so many Zeros.
func leaves(n int) []api.Tm {
	var l []api.Tm
	for range n {
		l = append(l, of(api.Zero))
	}
	return l
}

// kidsByOp is how many kids the document gives to each Op, from Var on.
func kidsByOp() map[int]int {
	return map[int]int{
		api.Var: 0, api.U: 0, api.Nat: 0, api.Zero: 0, api.Ty: 0, api.TInt: 0, api.OInt: 0,
		api.Fst: 1, api.Snd: 1, api.Suc: 1, api.Lift: 1, api.Quo: 1, api.OFst: 1, api.OSnd: 1, api.Spl: 1,
		api.Pi: 2, api.Lam: 2, api.App: 2, api.Sig: 2, api.TFun: 2, api.TPro: 2, api.OLam: 2, api.OApp: 2,
		api.OPair: 2, api.OPrim: 2, api.OLet: 2, api.OFix: 2,
		api.Pair: 3, api.OIf: 3,
		api.Rec: 4,
	}
}

// bound is how many binders the document puts ahead of a kid.
func bound(op, kid int) int {
	switch [2]int{op, kid} {
	case [2]int{api.Pi, 1}, [2]int{api.Lam, 1}, [2]int{api.Sig, 1}, [2]int{api.OLam, 1},
		[2]int{api.OLet, 1}, [2]int{api.OFix, 1}, [2]int{api.Rec, 0}:
		return 1
	case [2]int{api.Rec, 2}:
		return 2
	}
	return 0
}

// noOps are numbers that are no Op.
func noOps() []int {
	return []int{0, -1, 31, 32, 64, 255, 256, 257, 1<<32 + 1, math.MinInt, math.MaxInt}
}

// P401: each Op and each kid, Ops and kids that are none.
func TestBinders(t *testing.T) {
	ops := noOps()
	for op := range kidsByOp() {
		ops = append(ops, op)
	}
	for _, op := range ops {
		for _, kid := range []int{0, 1, 2, 3, 4, 5, -1, -2, 256, 257, 1<<32 + 1, math.MinInt, math.MaxInt} {
			if got, want := Binders(op, kid), bound(op, kid); got != want {
				t.Errorf("Op %d, kid %d: %d, not %d", op, kid, got, want)
			}
		}
	}
}

// within is x where it stands in others, so deep as well that its kids are just allowed.
func within(x api.Tm) []api.Tm {
	return []api.Tm{x, of(api.Suc, x), of(api.App, of(api.Nat), x), of(api.Rec, v(0), v(1), x, v(2)), sucs(118, x)}
}

// sucs is x in so many Sucs.
func sucs(n int, x api.Tm) api.Tm {
	for range n {
		x = of(api.Suc, x)
	}
	return x
}

// checked checks what Check answers of a node, by itself and where it stands in others.
func checked(t *testing.T, x api.Tm, want api.Errno) {
	t.Helper()
	for _, y := range within(x) {
		plain(t, y, want)
	}
}

// plain checks what Check answers.
func plain(t *testing.T, x api.Tm, want api.Errno) {
	t.Helper()
	if e := Check(x); e != want {
		t.Errorf("Op %d, N %d, %d kids: %v, not %v", x.Op, x.N, len(x.Kids), e, want)
	}
}

// P402: each Op with just its kids, and with any other count.
func TestCheckKids(t *testing.T) {
	ops := kidsByOp()
	if len(ops) != 30 {
		t.Fatalf("%d Ops", len(ops))
	}
	for op, want := range ops {
		for n := range 9 {
			if n == want {
				checked(t, of(op, leaves(n)...), api.OK)
			} else {
				checked(t, of(op, leaves(n)...), api.ErrArg)
			}
		}
		checked(t, of(op, leaves(want+256)...), api.ErrArg)
	}
	checked(t, api.Tm{Op: api.Zero, Kids: []api.Tm{}}, api.OK)
}

// P402: Ops that are none, however many kids they have.
func TestCheckOps(t *testing.T) {
	for _, op := range noOps() {
		for n := range 6 {
			checked(t, of(op, leaves(n)...), api.ErrArg)
		}
	}
}

// P402: each Op's N at its bounds, and one beyond them.
func TestCheckNumbers(t *testing.T) {
	type bounds struct{ low, high int }
	for op, n := range kidsByOp() {
		may, ok := map[int]bounds{api.Var: {0, 3000}, api.U: {0, 2}, api.OPrim: {0, 4},
			api.OInt: {math.MinInt, math.MaxInt}}[op]
		if !ok {
			may = bounds{0, 0}
		}
		for _, k := range []int{0, 1, -1, 2, 3, 4, 5, 6, 255, 256, 2999, 3000, 3001, 1 << 16, 1<<32 + 1, 1 << 32,
			-1 << 32, math.MinInt, math.MinInt + 1, math.MaxInt, math.MaxInt - 1} {
			want := api.OK
			if k < may.low || k > may.high {
				want = api.ErrArg
			}
			checked(t, numbered(op, k, leaves(n)...), want)
		}
	}
}

// P402: 120 deep at the most, by whichever kid.
func TestCheckDeep(t *testing.T) {
	plain(t, sucs(119, of(api.Zero)), api.OK)
	plain(t, sucs(120, of(api.Zero)), api.ErrDeep)
	for op, n := range kidsByOp() {
		for kid := range n {
			x := of(api.Nat)
			for deep := 2; deep <= 122; deep++ {
				l := leaves(n)
				l[kid] = x
				x = of(op, l...)
				if deep <= 120 {
					plain(t, x, api.OK)
				} else {
					plain(t, x, api.ErrDeep)
				}
			}
		}
	}
}

// sized is a term of so many nodes.
func sized(n int) api.Tm {
	switch {
	case n == 1:
		return of(api.Zero)
	case n == 2:
		return of(api.Suc, of(api.Zero))
	}
	return of(api.App, sized((n-1)/2), sized(n-1-(n-1)/2))
}

// P402: 3000 nodes at the most.
func TestCheckNodes(t *testing.T) {
	for _, n := range []int{1, 2, 3, 100, 2999, 3000} {
		plain(t, sized(n), api.OK)
	}
	for _, n := range []int{3001, 3002, 6000, 1 << 16} {
		plain(t, sized(n), api.ErrDeep)
	}
	plain(t, of(api.App, sized(2998), of(api.Zero)), api.OK)
	plain(t, of(api.App, sized(2999), of(api.Zero)), api.ErrDeep)
	plain(t, of(api.App, of(api.Zero), sized(2998)), api.OK)
	plain(t, of(api.App, of(api.Zero), sized(2999)), api.ErrDeep)
}

// P402, P6: each node ahead of its kids, in order: the first error on that way.
func TestCheckOrder(t *testing.T) {
	bad, deep, great := of(99), sucs(120, of(api.Zero)), sized(3000)
	plain(t, of(api.App, bad, deep), api.ErrArg)
	plain(t, of(api.App, deep, bad), api.ErrDeep)
	plain(t, of(api.App, bad, great), api.ErrArg)
	plain(t, of(api.App, great, bad), api.ErrDeep)
	plain(t, of(api.Suc, great, bad), api.ErrArg)
	plain(t, numbered(api.Suc, 1, deep), api.ErrArg)
	plain(t, of(99, deep), api.ErrArg)
	plain(t, of(api.App, deep), api.ErrArg)
	plain(t, of(api.App, of(api.Suc, bad), deep), api.ErrArg)
	plain(t, of(api.App, of(api.Zero), of(api.App, bad, deep)), api.ErrArg)
	plain(t, of(api.App, of(api.App, of(api.Zero), deep), bad), api.ErrDeep)
	plain(t, of(api.Pair, of(api.Zero), deep, bad), api.ErrDeep)
	plain(t, of(api.Pair, of(api.Zero), bad, deep), api.ErrArg)
	// the same node: too deep, or too many, ahead of all that is wrong in it
	plain(t, sucs(120, bad), api.ErrDeep)
	plain(t, sucs(119, bad), api.ErrArg)
	plain(t, of(api.App, sized(2998), bad), api.ErrArg)
	plain(t, of(api.App, sized(2999), bad), api.ErrDeep)
}
