package erase

import (
	"strconv"
	"strings"

	"thyrsus/api"
	"thyrsus/elab"
)

// plain is a type in which no value stands; its Op is one of Nat, Ty, Lift, Pi, Sig,
// or, of object code, of TInt, TFun, TPro.
type plain struct {
	op    int
	parts []*plain
}

func (p *plain) term() api.Tm {
	x := of(p.op)
	for _, part := range p.parts {
		x.Kids = append(x.Kids, part.term())
	}
	return x
}

func (p *plain) text() string {
	l := []string{map[int]string{api.Nat: "Nat", api.Ty: "Ty", api.TInt: "Int", api.Lift: "lift", api.Pi: "->", api.TFun: "->", api.Sig: "*", api.TPro: "*"}[p.op]}
	for _, part := range p.parts {
		l = append(l, part.text())
	}
	if len(l) == 1 {
		return l[0]
	}
	return list(l...)
}

func list(l ...string) string { return "(" + strings.Join(l, " ") + ")" }

// plain is any, at a stage.
func (d *die) plain(stage, deep int) *plain {
	if stage == 0 {
		if deep == 0 || d.of(2) == 0 {
			return &plain{op: api.TInt}
		}
		return &plain{[]int{api.TFun, api.TPro}[d.of(2)], []*plain{d.plain(0, deep-1), d.plain(0, deep-1)}}
	}
	switch k := d.of(7); {
	case deep == 0 || k < 2:
		return &plain{op: api.Nat}
	case k == 2:
		return &plain{op: api.Ty}
	case k < 5:
		return &plain{api.Lift, []*plain{d.plain(0, deep-1)}}
	}
	return &plain{[]int{api.Pi, api.Sig}[d.of(2)], []*plain{d.plain(1, deep-1), d.plain(1, deep-1)}}
}

// name is any: there are few, so that they are given more than once.
func (d *die) name() string { return []string{"a", "b", "c'", "d_", "E9"}[d.of(5)] }

// bound is a variable in scope.
type bound struct {
	name  string
	stage int
	is    *plain
}

// writer writes forms that have a type, in a scope: the last one nearest.
type writer struct {
	*die
	g []bound
}

func (w writer) with(name string, stage int, is *plain) writer {
	w.g = append(append([]bound{}, w.g...), bound{name, stage, is})
	return w
}

func (w writer) env() elab.Env {
	var e elab.Env
	for _, x := range w.g {
		e.Names = append(e.Names, x.name)
		e.G = append(e.G, api.Var1{Stage: x.stage, T: x.is.term()})
	}
	return e
}

// variable is the nearest one's name of a type, at a stage, if no nearer one has it; "": there is none.
func (w writer) variable(stage int, is *plain) string {
	seen := map[string]bool{}
	for k := range w.g {
		x := w.g[len(w.g)-1-k]
		if x.stage == stage && x.is.text() == is.text() && !seen[x.name] {
			return x.name
		}
		seen[x.name] = true
	}
	return ""
}

// form is one that has a type that is known, at a stage.
func (w writer) form(stage int, is *plain, deep int) string {
	if deep > 0 && w.of(3) > 0 {
		switch w.of(3) {
		case 0:
			return w.used(stage, is, deep-1)
		case 1:
			return w.built(stage, is, deep-1)
		}
		return w.telling(stage, is, deep-1)
	}
	if s := w.variable(stage, is); s != "" && w.of(4) > 0 {
		return s
	}
	if s := w.variable(1, &plain{api.Lift, []*plain{is}}); s != "" && stage == 0 {
		return s
	}
	return w.built(stage, is, deep-1)
}

// built is of the parts that its type has.
func (w writer) built(stage int, is *plain, deep int) string {
	x := w.name()
	switch is.op {
	case api.Nat:
		if deep > 0 {
			return list("suc", w.form(1, is, deep))
		}
		return []string{"zero", "0", "3", "40"}[w.of(4)]
	case api.TInt:
		if deep > 0 {
			return list([]string{"add", "sub", "mul", "div", "less"}[w.of(5)], w.form(0, is, deep), w.form(0, is, deep))
		}
		return strconv.Itoa(w.of(60) - 9)
	case api.Ty:
		return w.plain(0, 2).text()
	case api.Lift:
		if w.of(2) == 0 {
			return w.form(0, is.parts[0], deep)
		}
		return list("quote", w.telling(0, is.parts[0], deep))
	case api.Pi, api.TFun:
		return list("fn", x, w.with(x, stage, is.parts[0]).form(stage, is.parts[1], deep))
	}
	return list("pair", w.form(stage, is.parts[0], deep), w.form(stage, is.parts[1], deep))
}

// telling is a form that tells its type by itself, at that stage.
func (w writer) telling(stage int, is *plain, deep int) string {
	x := w.name()
	if (is.op == api.Pi || is.op == api.TFun) && w.of(2) == 0 {
		return list("fn", list(x, is.parts[0].text()), w.with(x, stage, is.parts[0]).telling(stage, is.parts[1], deep-1))
	}
	return list("the", w.typeOf(is), w.form(stage, is, deep))
}

// typeOf is a type, or a form that is to be run for it.
func (w writer) typeOf(is *plain) string {
	own, x := "U0", w.name()
	if is.op == api.TInt || is.op == api.TFun || is.op == api.TPro {
		own = "Ty"
	}
	switch {
	case w.of(8) == 0:
		return list(list("fn", list(x, own), x), is.text())
	case is.op == api.Pi && w.of(2) == 0:
		return list("pi", list(x, is.parts[0].text()), w.with(x, 1, is.parts[0]).typeOf(is.parts[1]))
	case is.op == api.Sig && w.of(2) == 0:
		return list("sig", list(x, is.parts[0].text()), w.with(x, 1, is.parts[0]).typeOf(is.parts[1]))
	}
	return is.text()
}

// used is what another one has, or makes.
func (w writer) used(stage int, is *plain, deep int) string {
	other, x, h := w.plain(stage, 1), w.name(), w.name()
	to, pro := api.TFun, api.TPro
	if stage == 1 {
		to, pro = api.Pi, api.Sig
	}
	switch k := w.of(7); {
	case k == 0:
		return list(w.telling(stage, &plain{to, []*plain{other, is}}, deep), w.form(stage, other, deep))
	case k == 1:
		return list("fst", w.telling(stage, &plain{pro, []*plain{is, other}}, deep))
	case k == 2:
		return list("snd", w.telling(stage, &plain{pro, []*plain{other, is}}, deep))
	case stage == 1:
		number := &plain{op: api.Nat}
		s := w.with(x, 1, number).with(h, 1, is).form(1, is, deep)
		return list("rec", list(w.name(), is.text()), w.form(1, is, deep), list(x, h, s), w.form(1, number, deep))
	case k == 3:
		return list("if", w.form(0, &plain{op: api.TInt}, deep), w.telling(0, is, deep), w.form(0, is, deep))
	case k == 4:
		return list("let", list(x, w.telling(0, other, deep)), w.with(x, 0, other).telling(0, is, deep))
	case k == 5:
		return list("fix", list(x, is.text()), w.with(x, 0, is).form(0, is, deep))
	}
	return list("splice", w.telling(1, &plain{api.Lift, []*plain{is}}, deep))
}
