package kernel

import (
	"testing"

	"thyrsus/api"
)

// isContext checks what Context tells.
func isContext(t *testing.T, g ctx, want api.Errno) {
	t.Helper()
	if e := Context(g); e != want {
		var l string
		for _, x := range g {
			l += " " + short(x.T)
		}
		t.Errorf("%s: %v, not %v", cut(l), e, want)
	}
}

// P702: contexts that may be: variables whose types name those ahead.
func TestContext(t *testing.T) {
	isContext(t, nil, api.OK)
	isContext(t, ctx{}, api.OK)
	for n := range room() {
		isContext(t, room()[:n+1], api.OK)
	}
	isContext(t, scoped(), api.OK)
	isContext(t, ctx{}.with(1, u(0)).with(1, v(0)).with(1, v(1)).with(1, pi(v(2), v(3))), api.OK)
	isContext(t, ctx{}.with(1, u(1)).with(1, v(0)), api.OK)
	isContext(t, ctx{}.with(1, ty()).with(0, v(0)).with(1, lift(v(1))).with(0, tFun(v(2), v(2))), api.OK)
	isContext(t, ctx{}.with(0, same(ty(), whole())).with(1, same(u(1), u(0))).with(1, v(0)), api.OK)
	isContext(t, ctx{}.with(0, whole()).with(1, pi(lift(whole()), ty())).with(0, app(v(0), quo(v(1)))), api.OK)
	isContext(t, ctx{}.with(1, rec(u(0), nat(), pi(nat(), v(1)), num(3))), api.OK)
	var g ctx
	for range 300 {
		g = append(g, api.Var1{Stage: 1, T: u(0)}, api.Var1{Stage: 1, T: v(0)}, api.Var1{T: whole()}, api.Var1{Stage: 1, T: ty()}, api.Var1{T: tPro(v(0), v(0))})
	}
	isContext(t, g, api.OK)
	isContext(t, g.with(1, v(1499)), api.OK)
	isContext(t, g.with(1, v(1500)), api.ErrName)
}

// P702: each error.
func TestNoContext(t *testing.T) {
	for _, stage := range []int{-1, 2, 3, 1 << 40, -1 << 63} {
		isContext(t, ctx{}.with(stage, nat()), api.ErrArg)
		isContext(t, ctx{}.with(stage, num(200)), api.ErrArg)
		isContext(t, room().with(stage, whole()), api.ErrArg)
	}
	for _, stage := range []int{0, 1} { // term.Check's
		for _, x := range []api.Tm{{}, of(77), of(-1), v(-1), v(3001), u(3), u(-1), numbered(api.Nat, 1), of(api.Pi, nat()), of(api.Nat, nat()), pi(v(0), of(77)), numbered(api.Lift, 1, whole())} {
			isContext(t, ctx{}.with(stage, x), api.ErrArg)
			isContext(t, room().with(stage, x), api.ErrArg)
		}
		isContext(t, ctx{}.with(stage, num(120)), api.ErrDeep)
		isContext(t, ctx{}.with(stage, chain(121)), api.ErrDeep)
		isContext(t, ctx{}.with(stage, tys(3001)), api.ErrDeep)
		isContext(t, ctx{}.with(stage, pi(v(99), num(120))), api.ErrDeep) // ahead of Infer's
		isContext(t, ctx{}.with(stage, pi(v(99), of(77))), api.ErrArg)
		for _, x := range faults(1) {
			isContext(t, ctx{}.with(stage, x.x), x.e)
			isContext(t, room().with(stage, x.x), x.e)
		}
		isContext(t, ctx{}.with(stage, v(0)), api.ErrName) // its own one
		isContext(t, ctx{}.with(1, u(0)).with(stage, v(1)), api.ErrName)
		isContext(t, ctx{}.with(0, whole()).with(stage, v(0)), api.ErrStage)
		isContext(t, ctx{}.with(stage, spl(quo(i(1)))), api.ErrStage)
		isContext(t, ctx{}.with(stage, u(2)), api.ErrLevel)
		isContext(t, ctx{}.with(1, deepType()).with(stage, v(0)), api.ErrDeep) // a type that must be normal
	}
	for _, x := range []api.Tm{num(1), whole(), lam(nat(), v(0)), quo(i(1)), v(0), v(1), v(3), v(7)} {
		isContext(t, room().with(1, x), api.ErrShape)
	}
	for _, x := range []api.Tm{num(1), nat(), ty(), u(0), lift(whole()), lam(nat(), v(0)), v(0), v(7), pi(ty(), ty())} {
		isContext(t, room().with(0, x), api.ErrType)
	}
	isContext(t, ctx{}.with(1, u(0)).with(0, v(0)), api.ErrType)
	isContext(t, ctx{}.with(1, ty()).with(1, v(0)), api.ErrShape)
}

// P702: the first element that has an error.
func TestFirstOfContext(t *testing.T) {
	bad := []struct {
		v    api.Var1
		want api.Errno
	}{
		{api.Var1{Stage: 2, T: nat()}, api.ErrArg}, {api.Var1{Stage: 1, T: of(77)}, api.ErrArg}, {api.Var1{Stage: 1, T: num(1)}, api.ErrShape}, {api.Var1{T: nat()}, api.ErrType},
		{api.Var1{Stage: 1, T: v(2000)}, api.ErrName}, {api.Var1{Stage: 1, T: i(1)}, api.ErrStage}, {api.Var1{Stage: 1, T: u(2)}, api.ErrLevel}, {api.Var1{T: num(120)}, api.ErrDeep},
	}
	for _, x := range bad {
		for _, y := range bad {
			for n := range 3 {
				g := append(append(room()[:3*n:3*n], x.v), room()[:n]...)
				isContext(t, append(g, y.v), x.want)
				isContext(t, append(g, y.v, api.Var1{Stage: 1, T: v(0)}), x.want)
			}
		}
	}
}
