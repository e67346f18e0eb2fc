package obj

import (
	"strings"
	"testing"

	"thyrsus/api"
	"thyrsus/kernel"
	"thyrsus/stage"
	"thyrsus/term"
)

// tell is a second telling of Infer, by the texts of types; the rules stand as
// the table of chapter 7 has them.
func tell(g []string, x api.Tm) (string, api.Errno) {
	var l []string // the types of the parts that are asked among g, from the left
	asked := x.Kids
	switch x.Op {
	case api.Var:
		if x.N >= len(g) {
			return "", api.ErrName
		}
		return g[len(g)-1-x.N], api.OK
	case api.OLam, api.OFix:
		return tellBelow(g, x)
	case api.OLet:
		asked = x.Kids[:1]
	case api.OApp, api.OPair, api.OFst, api.OSnd, api.OInt, api.OPrim, api.OIf:
	default:
		return "", api.ErrStage
	}
	for _, kid := range asked {
		a, e := tell(g, kid)
		if e == api.OK {
			e = mayBe(x.Op, append(l, a))
		}
		if e != api.OK {
			return "", e
		}
		l = append(l, a)
	}
	switch x.Op {
	case api.OApp:
		return split(l[0])[1], api.OK
	case api.OPair:
		return bounded("(17 " + l[0] + " " + l[1] + ")")
	case api.OFst:
		return split(l[0])[0], api.OK
	case api.OSnd:
		return split(l[0])[1], api.OK
	case api.OIf:
		return l[1], api.OK
	case api.OLet:
		return tell(append(append([]string{}, g...), l[0]), x.Kids[1])
	}
	return "15", api.OK
}

// tellBelow tells the types of functions and of what stands for itself.
func tellBelow(g []string, x api.Tm) (string, api.Errno) {
	if !onlyTypes(x.Kids[0]) {
		return "", api.ErrStage
	}
	a := term.Text(x.Kids[0])
	b, e := tell(append(append([]string{}, g...), a), x.Kids[1])
	switch {
	case e != api.OK:
		return "", e
	case x.Op == api.OLam:
		return bounded("(16 " + a + " " + b + ")")
	case a != b:
		return "", api.ErrType
	}
	return a, api.OK
}

// mayBe asks of the last part whether its type is one that may be there.
func mayBe(op int, l []string) api.Errno {
	a, first := l[len(l)-1], len(l) == 1
	switch {
	case op == api.OApp && first && !strings.HasPrefix(a, "(16"), (op == api.OFst || op == api.OSnd) && !strings.HasPrefix(a, "(17"):
		return api.ErrShape
	case op == api.OApp && !first && a != split(l[0])[0], op == api.OPrim && a != "15", op == api.OIf && first && a != "15", op == api.OIf && len(l) == 3 && a != l[1]:
		return api.ErrType
	}
	return api.OK
}

// split are the two parts of a type's text.
func split(a string) [2]string {
	open, at := 0, len("(16 ")
	for k := at; ; k++ {
		switch a[k] {
		case '(':
			open++
		case ')':
			open--
		case ' ':
			if open == 0 {
				return [2]string{a[at:k], a[k+1 : len(a)-1]}
			}
		}
	}
}

// bounded is a type, if it is a term: of so many nodes, so deep.
func bounded(a string) (string, api.Errno) {
	open, most := 0, 0
	for _, c := range a {
		switch c {
		case '(':
			open++
		case ')':
			open--
		}
		most = max(most, open)
	}
	if strings.Count(a, "1") > api.MaxNodes || most+1 > api.MaxDeep {
		return "", api.ErrDeep
	}
	return a, api.OK
}

func texts(g []api.Tm) []string {
	var l []string
	for _, a := range g {
		l = append(l, term.Text(a))
	}
	return l
}

// objects are variables of object code as the small checker has them.
func objects(g []api.Tm) []api.Var1 {
	var l []api.Var1
	for _, a := range g {
		l = append(l, api.Var1{T: a})
	}
	return l
}

// agrees checks Infer against the second telling.
func agrees(t *testing.T, g []api.Tm, x api.Tm) api.Errno {
	t.Helper()
	a, e := Infer(g, x)
	want, f := tell(texts(g), x)
	if e != f || e == api.OK && term.Text(a) != want || e != api.OK && !empty(a) {
		t.Errorf("%s: %s, %v, not %s, %v", short(x), short(a), e, cut(want), f)
	}
	return e
}

// checked holds Infer against the small checker, for plain code: a type that is told is the same, and where none is told there is none there either.
func checked(t *testing.T, g []api.Tm, x api.Tm) {
	t.Helper()
	a, e := Infer(g, x)
	b, f := kernel.Infer(objects(g), 0, x)
	if (e == api.OK) != (f == api.OK) || e == api.OK && !term.Same(a, b) {
		t.Errorf("%s: %s, %v, not %s, %v", short(x), short(a), e, short(b), f)
	}
	if f := kernel.Check(objects(g), 0, x, a); e == api.OK && f != api.OK {
		t.Errorf("%s: not of %s: %v", short(x), short(a), f)
	}
}

// P1101, P1103: code of all kinds of types, against its type as it was made, the second telling, and the small checker.
func TestTyped(t *testing.T) {
	seen := 0
	for seed := range uint64(6000) {
		g, x, a, ok := typed(seed + 1)
		if !ok {
			continue
		}
		infers(t, g, x, term.Text(a))
		agrees(t, g, x)
		checked(t, g, x)
		if term.Size(x) > 10 {
			seen++
		}
	}
	if seen < 1500 {
		t.Errorf("only %d", seen)
	}
}

// P1101, P1103: such code with nodes that are others: most of it has no type.
func TestMutated(t *testing.T) {
	seen := map[api.Errno]int{}
	d := &die{61}
	for seed := range uint64(6000) {
		g, x, _, ok := typed(seed + 8001)
		if !ok {
			continue
		}
		for range 6 {
			y := d.mutated(x)
			for d.of(3) == 0 {
				y = d.mutated(y)
			}
			if term.Check(y) != api.OK {
				continue
			}
			seen[agrees(t, g, y)]++
			if stage.Plain(y) {
				checked(t, g, y)
			}
		}
	}
	for _, e := range []api.Errno{api.OK, api.ErrName, api.ErrShape, api.ErrType, api.ErrStage} {
		if seen[e] < 700 {
			t.Errorf("%v: only %d", e, seen[e])
		}
	}
}

// P1101: code of great types, against the second telling.
func TestTypedGreat(t *testing.T) {
	seen := map[api.Errno]int{}
	great := []api.Tm{tys(1497), tys(1499), tys(1501), tys(2995), tys(2997), tys(2999), chain(118), chain(119), chain(120)}
	d := &die{67}
	for seed := range uint64(1500) {
		g, x, _, ok := typed(seed + 20001)
		if !ok || len(g) == 0 {
			continue
		}
		g[d.of(len(g))] = great[d.of(len(great))]
		y := oLet(x, oPair(oPair(v(1+d.of(len(g))), v(1+d.of(len(g)))), v(0)))
		for _, z := range []api.Tm{y, oLam(whole(), y), oPair(v(d.of(len(g))), x), d.mutated(y)} {
			if term.Check(z) == api.OK {
				seen[agrees(t, g, z)]++
			}
		}
	}
	if seen[api.OK] < 100 || seen[api.ErrDeep] < 100 {
		t.Errorf("only %v", seen)
	}
}

// P1103: at most one type: the small checker has it at no other one.
func TestOneType(t *testing.T) {
	d := &die{71}
	for seed := range uint64(400) {
		g, x, a, ok := typed(seed + 30001)
		if !ok {
			continue
		}
		for range 4 {
			b := d.anyType(3)
			want := api.ErrType
			if term.Same(a, b) {
				want = api.OK
			}
			if e := kernel.Check(objects(g), 0, x, b); e != want {
				t.Errorf("%s: of %s: %v", short(x), short(b), e)
			}
			refusedOrSame(t, g, oIf(i(1), x, oFix(b, v(0))), want)
		}
	}
}

// refusedOrSame checks that Infer tells a type, or the error.
func refusedOrSame(t *testing.T, g []api.Tm, x api.Tm, want api.Errno) {
	t.Helper()
	if a, e := Infer(g, x); e != want || Type(a) != (e == api.OK) {
		t.Errorf("%s: %s, %v, not %v", short(x), short(a), e, want)
	}
}

// P1103: what was staged has, among no variables, the type that the small checker told ahead.
func TestStagedCode(t *testing.T) {
	twice := lam(lift(whole()), quo(plus(spl(v(0)), spl(v(0)))))
	power := of(api.Rec, lift(whole()), quo(i(1)), quo(prim(api.PMul, i(3), spl(v(0)))), num(4))
	curried := func(n int) api.Tm { return of(api.Rec, ty(), whole(), tFun(whole(), v(0)), num(n)) }
	many := of(api.Rec, lift(of(api.Rec, ty(), whole(), tFun(whole(), v(0)), v(0))), quo(i(9)), quo(oLam(whole(), spl(v(1)))), num(3))
	for _, x := range []api.Tm{spl(quo(i(3))), spl(app(twice, quo(i(2)))), oLam(whole(), spl(app(twice, quo(v(0))))), oPair(spl(power), oLam(curried(3), v(0))), spl(many), oApp(spl(many), spl(power)), oFix(curried(1), oLam(whole(), spl(app(twice, quo(oApp(v(1), v(0)))))))} {
		want, e := kernel.Infer(nil, 0, x)
		if e != api.OK {
			t.Fatalf("%s: %v", short(x), e)
		}
		y, e := stage.Stage(x)
		if e != api.OK {
			t.Fatalf("%s: %v", short(x), e)
		}
		infers(t, nil, y, term.Text(want))
		if !term.Same(x, y) {
			refused(t, nil, x, api.ErrStage)
		}
	}
}
