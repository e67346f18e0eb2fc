package run

import (
	"testing"

	"thyrsus/api"
)

// sample is code, with its parts that are told, in that order, and the steps that it takes by itself ahead of what it tells behind them all.
type sample struct {
	name  string
	node  func(parts ...api.Tm) api.Tm
	parts []api.Tm // closed code, each of its type
	own   []int    // steps of its own behind each part
	want  string
}

// samples are some of each Op that has parts; what stands below binders is closed.
func samples() []sample {
	fun := oLam(whole(), i(3))
	prims := func(p int) func(parts ...api.Tm) api.Tm {
		return func(l ...api.Tm) api.Tm { return prim(p, l[0], l[1]) }
	}
	num2 := []api.Tm{i(9), i(2)}
	none := []int{0, 0, 0}
	return []sample{
		{"OApp", func(l ...api.Tm) api.Tm { return oApp(l[0], l[1]) }, []api.Tm{fun, i(1)}, []int{0, 1}, "3"},
		{"OApp, its body", func(l ...api.Tm) api.Tm { return oApp(oLam(whole(), l[1]), l[0]) }, []api.Tm{i(1), i(2)}, []int{1, 0}, "2"},
		{"OApp twice", func(l ...api.Tm) api.Tm { return oApp(oApp(l[0], l[1]), l[2]) }, []api.Tm{oLam(whole(), fun), i(1), i(2)}, []int{0, 1, 1}, "3"},
		{"OPair", func(l ...api.Tm) api.Tm { return oPair(l[0], l[1]) }, []api.Tm{i(1), fun}, none, "(1, fn)"},
		{"OPairs", func(l ...api.Tm) api.Tm { return oPair(oPair(l[0], l[1]), l[2]) }, []api.Tm{i(1), i(2), i(3)}, none, "((1, 2), 3)"},
		{"OFst", func(l ...api.Tm) api.Tm { return oFst(oPair(l[0], l[1])) }, num2, none, "9"},
		{"OSnd", func(l ...api.Tm) api.Tm { return oSnd(oPair(l[0], l[1])) }, num2, none, "2"},
		{"PAdd", prims(api.PAdd), num2, none, "11"},
		{"PSub", prims(api.PSub), num2, none, "7"},
		{"PMul", prims(api.PMul), num2, none, "18"},
		{"PDiv", prims(api.PDiv), num2, none, "4"},
		{"PLes", prims(api.PLes), num2, none, "0"},
		{"OIf", func(l ...api.Tm) api.Tm { return oIf(l[0], l[1], zero(i(1))) }, []api.Tm{i(-1), i(2)}, none, "2"},
		{"OIf of 0", func(l ...api.Tm) api.Tm { return oIf(l[0], zero(i(1)), l[1]) }, []api.Tm{i(0), i(2)}, none, "2"},
		{"OLet", func(l ...api.Tm) api.Tm { return oLet(l[0], l[1]) }, num2, none, "2"},
		{"OFix", func(l ...api.Tm) api.Tm { return oFix(whole(), l[0]) }, []api.Tm{i(5)}, none, "5"},
		{"OFix of two", func(l ...api.Tm) api.Tm { return oFix(p(), oPair(l[0], l[1])) }, num2, none, "(9, 2)"},
	}
}

// P1201: each part takes its steps, from the left, and the node its own; with less fuel there is ErrFuel where it ends.
func TestStepsOfParts(t *testing.T) {
	for _, r := range samples() {
		for bits := range 27 {
			var l []api.Tm
			sum := 0
			for k, x := range r.parts {
				steps := []int{bits % 3, bits / 3 % 3, bits / 9}[k] * (k + 1)
				l = append(l, after(steps, x))
				sum += steps + r.own[k]
			}
			runs(t, r.node(l...), r.want, sum)
		}
	}
}

// P1201: a division by nought in each part, told with the steps of those ahead of it, whatever is wrong behind it.
func TestFaultsOfParts(t *testing.T) {
	for _, r := range samples() {
		ahead := 0
		for k := range r.parts {
			l := make([]api.Tm, len(r.parts))
			for j, x := range r.parts {
				l[j] = after(j+1, x)
			}
			l[k] = after(5, zero(r.parts[k]))
			divides(t, r.node(l...), ahead+5)
			divides(t, oPair(after(3, i(1)), oPair(r.node(l...), zero(i(1)))), ahead+8)
			divides(t, oFix(whole(), oLet(r.node(l...), v(1))), ahead+5)
			for j := k + 1; j < len(r.parts); j++ {
				faultBehind(t, r, l, j, ahead+5)
			}
			l[k] = endlessLike(r.parts[k])
			for _, fuel := range []int{ahead, ahead + 1, 300} {
				fails(t, r.node(l...), fuel, api.ErrFuel, fuel)
			}
			for j := k + 1; j < len(r.parts); j++ {
				was := l[j]
				l[j] = zero(r.parts[j])
				fails(t, r.node(l...), 300, api.ErrFuel, 300)
				l[j] = was
			}
			ahead += k + 1 + r.own[k]
		}
	}
}

// faultBehind checks that what is wrong in the part j is not come to.
func faultBehind(t *testing.T, r sample, l []api.Tm, j, steps int) {
	t.Helper()
	was := l[j]
	for _, x := range []api.Tm{zero(r.parts[j]), endlessLike(r.parts[j]), after(3, zero(r.parts[j]))} {
		l[j] = x
		divides(t, r.node(l...), steps)
	}
	l[j] = was
}

// endlessLike is code of x's type that takes steps without end.
func endlessLike(x api.Tm) api.Tm { return oIf(endless(whole()), x, x) }

// P1201: of an OIf the other one is not looked at; of a pair that is taken apart both parts are; a body is none till it is called.
func TestWhatIsNotTold(t *testing.T) {
	bad := zero(i(1))
	loop := endless(whole())
	for _, x := range []api.Tm{bad, loop, by(i(1), bad)} {
		runs(t, oIf(i(1), i(2), x), "2", 0)
		runs(t, oIf(i(0), x, i(2)), "2", 0)
		runs(t, oIf(after(2, i(-7)), after(1, i(2)), x), "2", 3)
		runs(t, oLam(whole(), x), "fn", 0)
		runs(t, oLet(oLam(whole(), x), i(2)), "2", 0)
		runs(t, oPair(oLam(whole(), x), i(2)), "(fn, 2)", 0)
		runs(t, oApp(oLam(f(), i(2)), oLam(whole(), x)), "2", 1)
		runs(t, oFix(f(), oLam(whole(), x)), "fn", 0)
	}
	divides(t, oFst(oPair(i(1), bad)), 0)
	divides(t, oSnd(oPair(bad, i(1))), 0)
	divides(t, oLet(bad, i(1)), 0)
	divides(t, oApp(oLam(whole(), i(1)), bad), 0)
	divides(t, oApp(oIf(bad, id(), id()), loop), 0)
	divides(t, oApp(oLam(whole(), bad), after(2, i(1))), 3)
	divides(t, by(bad, i(0)), 0)
	divides(t, by(after(2, i(1)), minus(after(1, i(3)), i(3))), 3)
	divides(t, oApp(fact(), oApp(oLam(whole(), by(i(1), v(0))), i(0))), 1)
	divides(t, oApp(oFix(f(), oLam(whole(), oIf(v(0), oApp(v(1), minus(v(0), i(1))), by(i(1), v(0))))), i(5)), 11)
	fails(t, by(loop, i(0)), 20, api.ErrFuel, 20)
	fails(t, by(i(1), plus(i(0), loop)), 20, api.ErrFuel, 20)
	fails(t, oApp(id(), loop), 20, api.ErrFuel, 20)
}
