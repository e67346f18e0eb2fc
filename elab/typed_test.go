package elab

import (
	"strconv"
	"strings"

	"thyrsus/api"
)

// kind is a plain type: of a number, of functions, of pairs, of quotations, of types.
type kind struct {
	op   int // api.Nat, api.Pi, api.Sig, api.Lift, api.Ty; of object code: api.TInt, api.TFun, api.TPro
	a, b *kind
}

// term is the type as a term, closed.
func (k *kind) term() api.Tm {
	x := of(k.op)
	for _, part := range []*kind{k.a, k.b} {
		if part != nil {
			x.Kids = append(x.Kids, part.term())
		}
	}
	return x
}

func (k *kind) String() string {
	switch k.op {
	case api.Nat:
		return "Nat"
	case api.Ty:
		return "Ty"
	case api.TInt:
		return "Int"
	case api.Lift:
		return list("lift", k.a.String())
	case api.Pi, api.TFun:
		return list("->", k.a.String(), k.b.String())
	}
	return list("*", k.a.String(), k.b.String())
}

func (k *kind) same(l *kind) bool { return k.op == l.op && k.String() == l.String() }

// list is a list of texts.
func list(l ...string) string { return "(" + strings.Join(l, " ") + ")" }

func number() *kind { return &kind{op: api.Nat} }

func integer() *kind { return &kind{op: api.TInt} }

func quoted(k *kind) *kind { return &kind{op: api.Lift, a: k} }

// meta is any type of programs that run ahead; object: one of object code.
func (d *die) meta(deep int) *kind {
	if deep == 0 || d.of(3) == 0 {
		return number()
	}
	switch d.of(7) {
	case 0, 1:
		return &kind{api.Pi, d.meta(deep - 1), d.meta(deep - 1)}
	case 2, 3:
		return &kind{api.Sig, d.meta(deep - 1), d.meta(deep - 1)}
	case 4:
		return &kind{op: api.Ty}
	}
	return quoted(d.object(deep - 1))
}

func (d *die) object(deep int) *kind {
	if deep == 0 || d.of(2) == 0 {
		return integer()
	}
	return &kind{[]int{api.TFun, api.TPro}[d.of(2)], d.object(deep - 1), d.object(deep - 1)}
}

func (d *die) any(stage, deep int) *kind {
	if stage == 0 {
		return d.object(deep)
	}
	return d.meta(deep)
}

// named is a variable in scope, of a plain type.
type named struct {
	name  string
	stage int
	is    *kind
}

// writer writes forms whose terms have a type, in a scope: the last one nearest.
type writer struct {
	*die
	g []named
}

// name is any: there are few, so they are given more than once.
func (d *die) name() string { return []string{"a", "b", "c'", "d_", "E9"}[d.of(5)] }

func (w writer) with(name string, stage int, is *kind) writer {
	w.g = append(append([]named{}, w.g...), named{name, stage, is})
	return w
}

func (w writer) env() Env {
	var e Env
	for _, x := range w.g {
		e = e.with(x.name, x.stage, x.is.term())
	}
	return e
}

// variable is the name of one of a type that no nearer one has; false: there is none.
func (w writer) variable(stage int, is *kind) (string, bool) {
	from := w.of(len(w.g) + 1)
	for k := range w.g {
		at := (from + k) % len(w.g)
		x, nearest := w.g[at], true
		for _, y := range w.g[at+1:] {
			nearest = nearest && y.name != x.name
		}
		if nearest && x.stage == stage && x.is.same(is) {
			return x.name, true
		}
	}
	return "", false
}

// typeOf is a type, or what becomes it by steps; own is the type that it has itself.
func (w writer) typeOf(is *kind) string {
	own := "U0"
	switch is.op {
	case api.TInt, api.TFun, api.TPro:
		own = "Ty"
	}
	s, x := is.String(), w.name()
	if is.op == api.Pi && w.of(2) == 0 {
		s = list("pi", list(x, w.typeOf(is.a)), w.with(x, 1, is.a).typeOf(is.b))
	}
	if is.op == api.Sig && w.of(2) == 0 {
		s = list("sig", list(x, w.typeOf(is.a)), w.with(x, 1, is.a).typeOf(is.b))
	}
	switch w.of(9) {
	case 0:
		return list(list("fn", list(x, own), x), s)
	case 1:
		return list("fst", list("the", list("*", own, own), list("pair", s, s)))
	case 2:
		return list("rec", list(x, own), s, list("m", "h", "h"), strconv.Itoa(w.of(4)))
	case 3:
		return list("the", own, s)
	}
	return s
}

// infer is a form that tells by itself a term at that stage, of that type.
func (w writer) infer(stage int, is *kind, deep int) string {
	if s, ok := w.variable(stage, is); ok && (deep <= 0 || w.of(4) == 0) {
		return s
	}
	if deep > 0 && w.of(2) == 0 {
		return w.used(stage, is, deep-1)
	}
	x := w.name()
	switch is.op {
	case api.Nat:
		if deep > 0 && w.of(2) == 0 {
			return list("suc", w.check(1, is, deep-1))
		}
		return []string{"zero", "(the Nat 3)"}[w.of(2)]
	case api.Ty:
		return w.typeOf(w.object(1))
	case api.Lift:
		return list("quote", w.code(is.a, deep-1))
	case api.Pi:
		return list("fn", list(x, w.typeOf(is.a)), w.with(x, 1, is.a).infer(1, is.b, deep-1))
	case api.TFun:
		return list("fn", list(x, w.typeOf(is.a)), w.with(x, 0, is.a).code(is.b, deep-1))
	case api.TPro:
		return list("pair", w.infer(0, is.a, deep-1), w.code(is.b, deep-1))
	case api.TInt:
		if deep > 0 && w.of(2) == 0 {
			return list([]string{"add", "sub", "mul", "div", "less"}[w.of(5)], w.check(0, is, deep-1), w.check(0, is, deep-1))
		}
		return strconv.Itoa(w.of(60) - 9)
	}
	return list("the", w.typeOf(is), w.check(1, is, deep-1))
}

// used is what infer may be of any type: what another one is a part of, or makes.
func (w writer) used(stage int, is *kind, deep int) string {
	x, other := w.name(), w.any(stage, 1)
	function, pair := &kind{api.Pi, other, is}, [2]*kind{{api.Sig, is, other}, {api.Sig, other, is}}
	if stage == 0 {
		function.op, pair[0].op, pair[1].op = api.TFun, api.TPro, api.TPro
	}
	whole := func(is *kind) string {
		if stage == 0 {
			return w.code(is, deep)
		}
		return w.infer(1, is, deep)
	}
	switch k := w.of(9); {
	case k == 0:
		return list(whole(function), w.check(stage, other, deep))
	case k == 1:
		return list("fst", whole(pair[0]))
	case k == 2:
		return list("snd", whole(pair[1]))
	case k == 3:
		return list("the", w.typeOf(is), w.check(stage, is, deep))
	case stage == 0 && k == 4:
		return list("if", w.check(0, integer(), deep), w.code(is, deep), w.check(0, is, deep))
	case stage == 0 && k == 5:
		return list("let", list(x, w.code(other, deep)), w.with(x, 0, other).code(is, deep))
	case stage == 0 && k == 6:
		return list("fix", list(x, w.typeOf(is)), w.with(x, 0, is).check(0, is, deep))
	case stage == 0:
		return list("splice", w.infer(1, quoted(is), deep))
	case k == 4:
		return list("(fn (A U0) (fn (x A) x))", w.typeOf(is), w.check(1, is, deep))
	case k == 5:
		// as many arguments as a number tells
		f := list("fn", "y", list("fn", "z", w.with("y", 1, number()).with("z", 1, number()).check(1, is, deep)))
		f = list("the", list("rec", "(x U0)", w.typeOf(is), "(m h (-> Nat h))", "2"), f)
		return list(f, w.check(1, number(), deep), w.check(1, number(), deep))
	}
	h := w.name()
	s := w.with(x, 1, number()).with(h, 1, is).check(1, is, deep)
	return list("rec", list("k", w.typeOf(is)), w.check(1, is, deep), list(x, h, s), w.check(1, number(), deep))
}

// code is a form that tells code of that type, or a program that makes such.
func (w writer) code(is *kind, deep int) string {
	if w.of(3) == 0 {
		return w.infer(1, quoted(is), deep)
	}
	return w.infer(0, is, deep)
}

// check is a form that is a term of a type that is known.
func (w writer) check(stage int, is *kind, deep int) string {
	switch w.of(4) {
	case 0:
		return w.infer(stage, is, deep)
	case 1:
		if stage == 0 {
			return w.infer(1, quoted(is), deep)
		}
		if is.op == api.Lift {
			return w.infer(0, is.a, deep)
		}
	}
	if is.op == api.Lift {
		return w.check(0, is.a, deep)
	}
	if stage == 0 && deep > 0 && w.of(3) == 0 {
		return list("if", w.check(0, integer(), deep-1), w.check(0, is, deep-1), w.check(0, is, deep-1))
	}
	x := w.name()
	switch is.op {
	case api.Nat:
		return strconv.Itoa(w.of(5))
	case api.Pi, api.TFun:
		return list("fn", x, w.with(x, stage, is.a).check(stage, is.b, deep-1))
	case api.Sig, api.TPro:
		return list("pair", w.check(stage, is.a, deep-1), w.check(stage, is.b, deep-1))
	}
	return w.infer(stage, is, deep)
}

// sample is a form in an Env, and what its term is of.
type sample struct {
	e     Env
	s     string
	stage int
	a     api.Tm
}

// scoped has some variables in scope.
func (d *die) scoped() writer {
	w := writer{die: d}
	for range d.of(7) {
		stage := d.of(2)
		w = w.with(d.name(), stage, d.any(stage, 2))
	}
	return w
}

// inferable and checkable are samples of forms that tell their types, and of forms whose types are known.
func inferable(seed uint64) sample {
	d := &die{seed}
	w := d.scoped()
	stage := d.of(2)
	is := d.any(stage, 2)
	return sample{w.env(), w.infer(stage, is, d.of(5)), stage, is.term()}
}

func checkable(seed uint64) sample {
	d := &die{seed}
	w := d.scoped()
	stage := d.of(2)
	is := d.any(stage, 3)
	return sample{w.env(), w.check(stage, is, d.of(5)), stage, is.term()}
}
