package obj

import (
	"math"
	"testing"

	"thyrsus/api"
)

// several are v3: (Int, Int), v2: Int -> (Int -> Int), v1: Int -> Int, v0: Int.
func several() []api.Tm { return []api.Tm{p(), tFun(whole(), f()), f(), whole()} }

// P1101: the document's example.
func TestExample(t *testing.T) { infers(t, nil, i(1), "15") }

// P1101: each Op, by itself, among no variables.
func TestAmongNone(t *testing.T) {
	id := oLam(whole(), v(0))
	for _, x := range []struct {
		t    api.Tm
		want string
	}{
		{i(0), "15"}, {i(-7), "15"}, {i(math.MaxInt), "15"}, {i(math.MinInt), "15"},
		{id, "(16 15 15)"}, {oLam(p(), v(0)), "(16 (17 15 15) (17 15 15))"}, {oLam(whole(), oLam(f(), v(0))), "(16 15 (16 (16 15 15) (16 15 15)))"}, {oLam(whole(), oLam(f(), v(1))), "(16 15 (16 (16 15 15) 15))"}, {oLam(f(), i(1)), "(16 (16 15 15) 15)"},
		{oApp(id, i(1)), "15"}, {oApp(oLam(p(), id), oPair(i(1), i(2))), "(16 15 15)"}, {oApp(oApp(oLam(whole(), oLam(p(), v(0))), i(1)), oPair(i(1), i(2))), "(17 15 15)"},
		{oPair(i(1), i(2)), "(17 15 15)"}, {oPair(id, i(2)), "(17 (16 15 15) 15)"}, {oPair(i(1), oPair(i(2), id)), "(17 15 (17 15 (16 15 15)))"},
		{oFst(oPair(i(1), id)), "15"}, {oFst(oPair(id, i(1))), "(16 15 15)"}, {oSnd(oPair(i(1), id)), "(16 15 15)"}, {oSnd(oPair(id, i(1))), "15"}, {oFst(oSnd(oPair(i(1), oPair(id, i(2))))), "(16 15 15)"},
		{oIf(i(0), i(1), i(2)), "15"}, {oIf(i(0), id, oLam(whole(), i(3))), "(16 15 15)"}, {oIf(i(1), oPair(i(1), i(2)), oPair(i(3), i(4))), "(17 15 15)"},
		{oLet(i(1), v(0)), "15"}, {oLet(id, v(0)), "(16 15 15)"}, {oLet(id, i(1)), "15"}, {oLet(i(1), oLet(id, oPair(v(0), v(1)))), "(17 (16 15 15) 15)"}, {oLet(i(1), id), "(16 15 15)"},
		{oFix(whole(), v(0)), "15"}, {oFix(whole(), i(1)), "15"}, {oFix(p(), oPair(i(1), oFst(v(0)))), "(17 15 15)"}, {oFix(f(), oLam(whole(), oIf(v(0), oApp(v(1), plus(v(0), i(-1))), i(1)))), "(16 15 15)"},
	} {
		infers(t, nil, x.t, x.want)
	}
	for prims := api.PAdd; prims <= api.PLes; prims++ {
		infers(t, nil, prim(prims, i(1), i(0)), "15")
		refused(t, nil, prim(prims, id, i(0)), api.ErrType)
		refused(t, nil, prim(prims, i(0), id), api.ErrType)
	}
}

// P1101: among several, the last one nearest; beyond them is none.
func TestVariables(t *testing.T) {
	g := several()
	for n, want := range []string{"15", "(16 15 15)", "(16 15 (16 15 15))", "(17 15 15)"} {
		infers(t, g, v(n), want)
		infers(t, g, oLet(i(1), v(n+1)), want)
		infers(t, g, oLam(p(), oLet(i(1), v(n+2))), "(16 (17 15 15) "+want+")")
		infers(t, g, oApp(oFix(tFun(whole(), g[3-n]), oLam(whole(), v(n+2))), i(1)), want)
		infers(t, g[3-n:], v(n), want)
		refused(t, g[4-n:], v(n), api.ErrName)
	}
	for _, n := range []int{4, 5, 17, 2999, 3000} {
		refused(t, g, v(n), api.ErrName)
		refused(t, nil, v(n-4), api.ErrName)
		refused(t, g, oLet(v(n), i(1)), api.ErrName)
		refused(t, g, oLet(v(1), plus(v(1), v(min(n+1, 3000)))), api.ErrName)
		refused(t, g, oLam(whole(), oLam(whole(), v(min(n+2, 3000)))), api.ErrName)
		refused(t, g, oFix(whole(), v(min(n+1, 3000))), api.ErrName)
	}
	infers(t, g, oPair(oLam(f(), v(0)), v(0)), "(17 (16 (16 15 15) (16 15 15)) 15)") // what was bound is no more
	infers(t, g, oPair(oLet(v(3), v(0)), v(0)), "(17 (17 15 15) 15)")
	infers(t, g, oPair(oFix(f(), v(0)), v(0)), "(17 (16 15 15) 15)")
	infers(t, g, oApp(oApp(v(2), v(0)), oApp(v(1), oFst(v(3)))), "15")
	infers(t, g, oApp(oLet(v(2), oApp(v(0), v(1))), oIf(v(0), v(0), oSnd(v(3)))), "15")
	infers(t, g, oLam(whole(), oLam(whole(), oPair(v(5), oPair(v(1), v(2))))), "(16 15 (16 15 (17 (17 15 15) (17 15 15))))")
	infers(t, []api.Tm{}, i(1), "15")
}

// P1101: as many variables as can be named, and more.
func TestManyVariables(t *testing.T) {
	var g []api.Tm
	for n := range 4000 {
		g = append(g, []api.Tm{whole(), f(), p()}[n%3])
	}
	for _, n := range []int{0, 1, 2, 119, 2998, 2999, 3000} {
		want := []string{"15", "(16 15 15)", "(17 15 15)"}[(3999-n)%3]
		infers(t, g, v(n), want)
		infers(t, g[len(g)-n-1:], v(n), want)
		refused(t, g[len(g)-n:], v(n), api.ErrName)
	}
	infers(t, g, oLet(oLam(whole(), v(0)), oApp(v(0), v(1))), "15")
}

// P1101: what stands below any variable named: each Op that may be there, below each.
func TestEachBelowEach(t *testing.T) {
	g := several()
	made := map[string][]api.Tm{ // by the type
		"15":         {v(0), i(4), plus(v(0), i(1)), oApp(v(1), i(2)), oFst(v(3)), oSnd(v(3)), oIf(v(0), i(1), v(0)), oLet(v(1), oApp(v(0), i(1))), oFix(whole(), plus(v(0), v(1)))},
		"(16 15 15)": {v(1), oLam(whole(), plus(v(0), v(1))), oApp(v(2), v(0)), oFst(oPair(v(1), v(0))), oSnd(oPair(v(0), v(1))), oIf(v(0), v(1), v(1)), oLet(v(2), oApp(v(0), v(1))), oFix(f(), oLam(whole(), oApp(v(1), v(0))))},
		"(17 15 15)": {v(3), oPair(i(1), v(0)), oApp(oLam(p(), v(0)), v(3)), oFst(oPair(v(3), v(0))), oSnd(oPair(v(0), v(3))), oIf(v(0), v(3), oPair(i(1), i(1))), oLet(v(0), oPair(v(0), v(1))), oFix(p(), v(4))},
	}
	for a, l := range made {
		for _, x := range l {
			infers(t, g, x, a)
			infers(t, g, oLet(x, v(0)), a)
			infers(t, g, oPair(x, v(0)), "(17 "+a+" 15)")
			infers(t, g, oPair(v(1), x), "(17 (16 15 15) "+a+")")
			infers(t, g, oIf(v(0), x, x), a)
			infers(t, g, oApp(oLam(whole(), v(4)), i(1)), "(17 15 15)")
			for b, m := range made {
				for _, y := range m {
					infers(t, g, oPair(x, y), "(17 "+a+" "+b+")")
					infers(t, g, oFst(oPair(x, y)), a)
					infers(t, g, oSnd(oPair(x, y)), b)
					switch {
					case a == b:
						infers(t, g, oIf(i(1), x, y), a)
					default:
						refused(t, g, oIf(i(1), x, y), api.ErrType)
					}
					if a == "15" && b == "15" {
						infers(t, g, plus(x, y), "15")
						infers(t, g, oIf(x, y, x), "15")
					} else {
						refused(t, g, plus(x, y), api.ErrType)
					}
					if a == "(16 15 15)" && b == "15" {
						infers(t, g, oApp(x, y), "15")
					}
				}
			}
		}
	}
}

// P1101: the types are held against each other in all their parts.
func TestOtherTypes(t *testing.T) {
	var l []api.Tm
	d := &die{19}
	for range 60 {
		l = append(l, d.anyType(3))
	}
	for _, a := range l {
		for _, b := range l {
			g := []api.Tm{tFun(a, whole()), a, b, whole()}
			want := api.ErrType
			if onlySame(a, b) {
				want = api.OK
			}
			for _, x := range []api.Tm{oApp(v(3), v(1)), oIf(v(0), v(2), v(1)), oIf(v(0), v(1), v(2)), oFix(a, v(2)), oFix(a, oLet(v(2), oIf(v(2), v(0), v(1))))} {
				if y, e := Infer(g, x); e != want || e != api.OK && !empty(y) {
					t.Errorf("%s, %s: %s: %s, %v, not %v", short(a), short(b), short(x), short(y), e, want)
				}
			}
		}
	}
}

// onlySame tells whether two types have one text.
func onlySame(a, b api.Tm) bool { return short(a) == short(b) }

// P1101: ErrStage, where the type that is written is none.
func TestWrittenTypes(t *testing.T) {
	g := several()
	noTypes := []api.Tm{v(0), v(1), v(4), v(3000), nat(), ty(), u(0), u(1), num(2), i(1), quo(i(1)), lift(whole()), lam(ty(), v(0)), app(lam(ty(), v(0)), whole()), oLam(whole(), v(0)), oApp(v(1), v(0)), oPair(whole(), whole()), spl(quo(i(1))), of(api.Pi, nat(), nat()), of(api.Sig, whole(), whole()), of(api.Fst, of(api.Pair, of(api.Sig, ty(), ty()), whole(), whole())), of(api.Rec, ty(), whole(), v(0), num(0))}
	for _, a := range noTypes {
		for _, b := range []api.Tm{a, tFun(a, whole()), tFun(whole(), a), tPro(a, f()), tPro(whole(), tFun(f(), a))} {
			for _, x := range []api.Tm{i(1), v(0), v(3000), whole(), oApp(i(1), i(2)), plus(v(2), i(1))} { // ahead of all that is wrong behind it
				refused(t, g, oLam(b, x), api.ErrStage)
				refused(t, g, oFix(b, x), api.ErrStage)
				refused(t, g, oLet(i(1), oPair(oLam(b, x), x)), api.ErrStage)
				refused(t, nil, oLam(b, x), api.ErrStage)
				refused(t, nil, oFix(b, x), api.ErrStage)
			}
		}
	}
}

// P1101: ErrStage, where an Op stands as a term that is none of plain code.
func TestOpsThatMayNotBe(t *testing.T) {
	g := several()
	may := map[int]bool{api.Var: true, api.OLam: true, api.OApp: true, api.OPair: true, api.OFst: true, api.OSnd: true, api.OInt: true, api.OPrim: true, api.OIf: true, api.OLet: true, api.OFix: true}
	for _, op := range inOrder() {
		if may[op] {
			continue
		}
		for _, x := range []api.Tm{filled(op, v(0)), filled(op, v(3000)), filled(op, whole()), filled(op, quo(i(1))), filled(op, i(1)), filled(op, nat())} {
			refused(t, g, x, api.ErrStage)
			refused(t, nil, x, api.ErrStage)
			for _, y := range []api.Tm{oLam(whole(), x), oApp(x, v(0)), oApp(v(1), x), oPair(x, v(3000)), oPair(v(0), x), oFst(x), oSnd(x), plus(x, v(1)), plus(v(0), x), oIf(x, v(0), v(0)), oIf(v(0), x, v(0)), oIf(v(0), v(0), x), oLet(x, i(1)), oLet(i(1), x), oFix(whole(), x)} {
				refused(t, g, y, api.ErrStage)
				refused(t, g, oLet(oLam(f(), oLam(whole(), y)), v(0)), api.ErrStage)
			}
		}
	}
	refused(t, g, spl(quo(i(1))), api.ErrStage) // it is none, whatever its type was
	refused(t, g, num(3), api.ErrStage)
	refused(t, g, oPair(f(), i(1)), api.ErrStage)
	refused(t, g, oLet(p(), v(0)), api.ErrStage)
}
