package kernel

import (
	"testing"

	"thyrsus/api"
)

// P701: the document's example.
func TestExample(t *testing.T) {
	infers(t, nil, 1, lam(nat(), v(0)), "(3 10 10)")
}

// P701: variables of both stages, there and not there, their types in all of g.
func TestVariables(t *testing.T) {
	g := room()
	stands(t, g)
	codes := map[int]string{6: "15", 2: "v3"}
	programs := map[int]string{7: "10", 5: "(3 10 U0)", 4: "(18 15)", 3: "14", 1: "(6 10 (5 v6 v0))", 0: "(3 10 (5 v6 v0))"}
	for n := range g {
		for stage, l := range []map[int]string{codes, programs} {
			if want, ok := l[n]; ok {
				infers(t, g, stage, v(n), want)
			} else {
				refused(t, g, stage, v(n), api.ErrStage)
			}
		}
	}
	for _, n := range []int{8, 9, 100, 3000} {
		for stage := range 2 {
			refused(t, g, stage, v(n), api.ErrName)
			refused(t, nil, stage, v(n), api.ErrName)
		}
	}
	refused(t, nil, 0, v(0), api.ErrName)
	refused(t, nil, 1, v(0), api.ErrName)
}

// P701: below binders variables count on, to the end of g and no farther.
func TestVariablesBelowBinders(t *testing.T) {
	g := room()
	infers(t, g, 1, lam(nat(), v(8)), "(3 10 10)")
	infers(t, g, 1, lam(nat(), lam(u(0), v(9))), "(3 10 (3 U0 10))")
	infers(t, g, 1, lam(nat(), lam(u(0), v(1))), "(3 10 (3 U0 10))")
	infers(t, g, 1, lam(nat(), v(1)), "(3 10 (3 10 (5 v7 v0)))")
	infers(t, g, 0, oLam(v(3), v(7)), "(16 v3 15)")
	infers(t, g, 0, oLam(whole(), v(3)), "(16 15 v3)")
	infers(t, g, 1, quo(oLam(whole(), spl(v(5)))), "(18 (16 15 15))")
	refused(t, g, 1, lam(nat(), v(9)), api.ErrName)
	refused(t, g, 0, oLam(whole(), v(9)), api.ErrName)
	refused(t, g, 1, lam(nat(), v(7)), api.ErrStage)
	refused(t, g, 0, oLam(whole(), v(8)), api.ErrStage)
	refused(t, g, 1, lam(nat(), quo(v(0))), api.ErrStage)
	refused(t, g, 0, oLam(whole(), spl(v(0))), api.ErrStage)
	refused(t, g, 1, app(lam(nat(), v(0)), v(8)), api.ErrName) // what is below no more
}

// P701: the type of a variable is made normal, in all of g.
func TestVariablesOfTypesWithSteps(t *testing.T) {
	g := ctx{}.with(1, pi(nat(), u(0))).with(1, same(u(1), u(0))).with(1, same(u(0), app(v(1), add(num(1), num(1)))))
	g = g.with(0, same(ty(), whole())).with(1, arrows(num(1), num(1))).with(1, lift(same(ty(), tPro(whole(), whole()))))
	stands(t, g)
	infers(t, g, 1, v(5), "(3 10 U0)")
	infers(t, g, 1, v(4), "U0")
	infers(t, g, 1, v(3), "(5 v5 (12 (12 11)))")
	infers(t, g, 0, v(2), "15")
	infers(t, g, 1, v(1), "(3 10 (3 10 10))")
	infers(t, g, 1, v(0), "(18 (17 15 15))")
	infers(t, g, 1, app(v(1), num(0)), "(3 10 10)")
	// the same one below other counts of binders
	infers(t, g, 1, lam(nat(), lam(v(5), v(5))), "(3 10 (3 v5 (5 v7 (12 (12 11)))))")
	infers(t, g, 1, pairOf(sig(app(v(5), num(2)), pi(nat(), app(v(7), num(2)))), v(3), lam(nat(), v(4))), "(6 (5 v5 (12 (12 11))) (3 10 (5 v7 (12 (12 11)))))")
	infers(t, g, 1, lam(v(4), lam(nat(), v(1))), "(3 v4 (3 10 v6))")
	// one binder after another at the same place
	infers(t, g, 1, pairOf(sig(pi(nat(), nat()), pi(u(0), u(0))), lam(nat(), v(0)), lam(u(0), v(0))), "(6 (3 10 10) (3 U0 U0))")
	infers(t, g, 0, oPair(oLam(whole(), v(0)), oLam(tPro(whole(), whole()), v(0))), "(17 (16 15 15) (16 (17 15 15) (17 15 15)))")
}

// P701: far variables, as far as a term can name them.
func TestFarVariables(t *testing.T) {
	g := ctx{{Stage: 1, T: u(0)}}
	for len(g) < 3000 {
		g = append(g, api.Var1{Stage: 1, T: v(len(g) - 1)})
	}
	stands(t, g)
	infers(t, g, 1, v(2999), "U0")
	infers(t, g, 1, v(2998), "v2999")
	infers(t, g, 1, v(0), "v2999")
	refused(t, g, 1, v(3000), api.ErrName)
	g = g.with(0, whole())
	stands(t, g)
	infers(t, g, 1, v(3000), "U0")
	infers(t, g, 1, v(2999), "v3000")
	infers(t, g, 1, v(1), "v3000")
	infers(t, g, 0, v(0), "15")
	dependent := append(ctx{{Stage: 1, T: pi(u(0), v(0))}}, g[1:]...)
	infers(t, dependent, 1, v(3000), "(3 U0 v0)")
}

// P701: an Op at the stage that it is not of, ahead of all that its row asks.
func TestStages(t *testing.T) {
	g := room()
	bad := []api.Tm{v(99), u(2), zero(), i(1), of(api.Suc, ty()), app(zero(), zero())}
	for op, n := range kidsByOp() {
		if op == api.Var {
			continue
		}
		wrong := 0
		if op >= api.OLam {
			wrong = 1
		}
		for _, x := range bad {
			node := of(op)
			for range n {
				node.Kids = append(node.Kids, x)
			}
			refused(t, g, wrong, node, api.ErrStage)
			for _, none := range []int{-1, 2, 3, 1 << 40} {
				refused(t, g, none, node, api.ErrStage)
			}
		}
	}
	refused(t, g, 0, u(2), api.ErrStage)
	refused(t, g, 1, quo(zero()), api.ErrStage)
	refused(t, g, 0, spl(i(1)), api.ErrStage)
	refused(t, g, 0, of(api.OFst, quo(i(1))), api.ErrStage)
	refused(t, g, 1, of(api.Suc, spl(v(4))), api.ErrStage)
}
