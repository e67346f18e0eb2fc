package elab

import (
	"thyrsus/api"
	"thyrsus/conv"
	"thyrsus/forms"
	"thyrsus/norm"
	"thyrsus/term"
)

// teller is a second telling of the chapter: by one great switch over the list's
// pattern, with terms put in for variables at once, and each error thrown where
// it is met.
type teller struct {
	names []string
	g     []api.Var1
	defs  []Known
}

// toldInfer and toldCheck are what the faces must answer.
func toldInfer(e Env, f api.Form) (x api.Tm, stage int, a api.Tm, err api.Errno) {
	defer func() {
		if r := recover(); r != nil {
			x, stage, a, err = api.Tm{}, 0, api.Tm{}, r.(api.Errno)
		}
	}()
	throw(forms.Check(f))
	x, stage, a = teller{e.Names, e.G, e.Defs}.infer(f)
	throw(term.Check(x))
	return x, stage, a, api.OK
}

func toldCheck(e Env, f api.Form, stage int, a api.Tm) (x api.Tm, err api.Errno) {
	defer func() {
		if r := recover(); r != nil {
			x, err = api.Tm{}, r.(api.Errno)
		}
	}()
	throw(forms.Check(f))
	x = teller{e.Names, e.G, e.Defs}.check(f, stage, a)
	throw(term.Check(x))
	return x, api.OK
}

func throw(e api.Errno) {
	if e != api.OK {
		panic(e)
	}
}

func unless(ok bool, e api.Errno) {
	if !ok {
		panic(e)
	}
}

func settled(a api.Tm) api.Tm {
	n, e := norm.Normal(a)
	throw(e)
	return n
}

func equalOr(a, b api.Tm) {
	is, e := conv.Equal(a, b)
	throw(e)
	unless(is, api.ErrType)
}

func (r teller) with(name string, stage int, a api.Tm) teller {
	r.names = append(append([]string{}, r.names...), name)
	r.g = append(append([]api.Var1{}, r.g...), api.Var1{Stage: stage, T: a})
	return r
}

// isWord tells of a name whether nobody may name it.
func isWord(s string) bool {
	switch s {
	case "U0", "U1", "U2", "Nat", "zero", "Ty", "Int", "fn", "pi", "sig", "->", "*", "pair", "fst", "snd", "suc", "rec", "lift", "quote",
		"splice", "add", "sub", "mul", "div", "less", "if", "let", "fix", "the", "def":
		return true
	}
	return false
}

// pattern tells how a list stands: its first form if that is a word (else `f`), then for each part `n` (a name), `v` (x A), `s` (n h s), or `.`.
func pattern(l []api.Form) string {
	named := func(f api.Form) bool { return f.Kind == api.FName && !isWord(f.S) }
	out := "f"
	switch {
	case len(l) == 0 || l[0].Kind == api.FNum:
		return "none"
	case l[0].Kind == api.FName && isWord(l[0].S):
		out = l[0].S
	}
	for _, f := range l[1:] {
		switch {
		case named(f):
			out += " n"
		case f.Kind == api.FList && len(f.L) == 2 && named(f.L[0]):
			out += " v"
		case f.Kind == api.FList && len(f.L) == 3 && named(f.L[0]) && named(f.L[1]):
			out += " s"
		default:
			out += " ."
		}
	}
	return out
}

// kind is a list's first word, if the list is one of the table; else it throws.
func kindOf(l []api.Form) string {
	p := pattern(l)
	unless(p != "none", api.ErrForm)
	if p[0] == 'f' && (len(p) == 1 || p[1] == ' ') {
		unless(len(l) > 1, api.ErrForm)
		return "call"
	}
	w := l[0].S
	parts := p[len(w):] // two letters each
	at := func(k int) byte { return parts[2*k+1] }
	count := map[string]int{"fn": 2, "pi": 2, "sig": 2, "->": 2, "*": 2, "pair": 2, "fst": 1, "snd": 1, "suc": 1, "rec": 4, "lift": 1, "quote": 1,
		"splice": 1, "add": 2, "sub": 2, "mul": 2, "div": 2, "less": 2, "if": 3, "let": 2, "fix": 2, "the": 2}
	n, is := count[w]
	unless(is && len(l)-1 == n, api.ErrForm)
	switch w {
	case "fn":
		unless(at(0) == 'n' || at(0) == 'v', api.ErrForm)
		if at(0) == 'n' {
			return "fn x"
		}
	case "pi", "sig", "let", "fix":
		unless(at(0) == 'v', api.ErrForm)
	case "rec":
		unless(at(0) == 'v' && at(2) == 's', api.ErrForm)
	}
	return w
}

func (r teller) inferName(s string) (api.Tm, int, api.Tm) {
	switch s {
	case "U0":
		return u(0), 1, u(1)
	case "U1":
		return u(1), 1, u(2)
	case "U2":
		panic(api.ErrLevel)
	case "Nat":
		return nat(), 1, u(0)
	case "zero":
		return zero(), 1, nat()
	case "Ty":
		return ty(), 1, u(0)
	case "Int":
		return whole(), 1, ty()
	}
	unless(!isWord(s), api.ErrForm)
	for k := len(r.names) - 1; k >= 0; k-- {
		if r.names[k] == s {
			n := len(r.names) - 1 - k
			a := settled(r.g[k].T)
			for range n + 1 {
				a = term.Shift(a, 1, 0)
			}
			return v(n), r.g[k].Stage, a
		}
	}
	for k := len(r.defs) - 1; k >= 0; k-- {
		if r.defs[k].Name == s {
			return r.defs[k].T, r.defs[k].Stage, r.defs[k].A
		}
	}
	panic(api.ErrName)
}

// coerced is what infer tells of a form, at stage 0.
func (r teller) coerced(f api.Form) (api.Tm, api.Tm) {
	return coerced(r.infer(f))
}

func coerced(x api.Tm, stage int, a api.Tm) (api.Tm, api.Tm) {
	if stage == 0 {
		return x, a
	}
	unless(a.Op == api.Lift, api.ErrStage)
	return spl(x), a.Kids[0]
}

// level is a type of programs, and its universe.
func (r teller) universe(f api.Form) (api.Tm, int) {
	x, stage, a := r.infer(f)
	unless(stage == 1, api.ErrStage)
	unless(a.Op == api.U, api.ErrShape)
	return x, a.N
}

// lowered is a type that must not name the nearest variable, without it.
func lowered(a api.Tm) api.Tm {
	unless(!term.Free(a, 0), api.ErrScope)
	return term.Subst(a, 0, nat())
}

// eitherType is a type of programs (1) or of object code (0).
func (r teller) eitherType(f api.Form) (x api.Tm, is, level int) {
	x, stage, a := r.infer(f)
	unless(stage == 1, api.ErrStage)
	unless(a.Op == api.U || a.Op == api.Ty, api.ErrShape)
	if a.Op == api.U {
		return x, 1, a.N
	}
	return x, 0, 0
}

func (r teller) infer(f api.Form) (api.Tm, int, api.Tm) {
	switch f.Kind {
	case api.FName:
		return r.inferName(f.S)
	case api.FNum:
		return i(f.N), 0, whole()
	}
	l := f.L
	switch kindOf(l) {
	case "fn x":
		panic(api.ErrGuess)
	case "pi", "sig", "->", "*", "lift", "quote", "suc", "rec":
		x, a := r.inferProgram(kindOf(l), l)
		return x, 1, settled(a)
	case "add", "sub", "mul", "div", "less", "if", "let", "fix", "pair", "splice":
		x, a := r.inferCode(kindOf(l), l)
		return x, 0, settled(a)
	case "fn":
		name := l[1].L[0].S
		a, is, _ := r.eitherType(l[1].L[1])
		if is == 1 {
			b, stage, c := r.with(name, 1, a).infer(l[2])
			unless(stage == 1, api.ErrStage)
			return lam(a, b), 1, settled(pi(a, c))
		}
		b, c := r.with(name, 0, a).coerced(l[2])
		return oLam(a, b), 0, settled(tFun(a, lowered(c)))
	case "fst", "snd":
		return r.inferPart(l)
	case "the":
		a, is, _ := r.eitherType(l[1])
		a = settled(a)
		return r.check(l[2], is, a), is, a
	}
	x, stage, a := r.infer(l[0])
	for _, arg := range l[1:] {
		if stage == 1 && a.Op == api.Pi {
			y := r.check(arg, 1, a.Kids[0])
			x, a = of(api.App, x, y), settled(term.Subst(a.Kids[1], 0, y))
			continue
		}
		x, a = coerced(x, stage, a)
		unless(a.Op == api.TFun, api.ErrShape)
		x, stage, a = of(api.OApp, x, r.check(arg, 0, a.Kids[0])), 0, a.Kids[1]
	}
	return x, stage, a
}

func (r teller) inferPart(l []api.Form) (api.Tm, int, api.Tm) {
	second := 0
	if l[0].S == "snd" {
		second = 1
	}
	x, stage, a := r.infer(l[1])
	if stage == 1 && a.Op == api.Sig {
		if second == 0 {
			return of(api.Fst, x), 1, a.Kids[0]
		}
		return of(api.Snd, x), 1, settled(term.Subst(a.Kids[1], 0, of(api.Fst, x)))
	}
	x, a = coerced(x, stage, a)
	unless(a.Op == api.TPro, api.ErrShape)
	return of(api.OFst+second, x), 0, a.Kids[second]
}

func (r teller) inferProgram(w string, l []api.Form) (api.Tm, api.Tm) {
	switch w {
	case "pi", "sig":
		a, n := r.universe(l[1].L[1])
		b, k := r.with(l[1].L[0].S, 1, a).universe(l[2])
		return of(map[string]int{"pi": api.Pi, "sig": api.Sig}[w], a, b), u(max(n, k))
	case "->", "*":
		a, is, n := r.eitherType(l[1])
		if is == 0 {
			return of(map[string]int{"->": api.TFun, "*": api.TPro}[w], a, r.check(l[2], 1, ty())), ty()
		}
		b, k := r.universe(l[2])
		return of(map[string]int{"->": api.Pi, "*": api.Sig}[w], a, term.Shift(b, 1, 0)), u(max(n, k))
	case "lift":
		return lifted(r.check(l[1], 1, ty())), u(0)
	case "quote":
		x, a := r.coerced(l[1])
		return quo(x), lifted(a)
	case "suc":
		return of(api.Suc, r.check(l[1], 1, nat())), nat()
	}
	p, _ := r.with(l[1].L[0].S, 1, nat()).universe(l[1].L[1])
	z := r.check(l[2], 1, settled(term.Subst(p, 0, zero())))
	// below n and h: n is v1
	next := settled(term.Subst(term.Shift(p, 2, 1), 0, of(api.Suc, v(1))))
	s := r.with(l[3].L[0].S, 1, nat()).with(l[3].L[1].S, 1, p).check(l[3].L[2], 1, next)
	n := r.check(l[4], 1, nat())
	return rec(p, z, s, n), term.Subst(p, 0, n)
}

func (r teller) inferCode(w string, l []api.Form) (api.Tm, api.Tm) {
	switch w {
	case "if":
		c := r.check(l[1], 0, whole())
		x, a := r.coerced(l[2])
		return of(api.OIf, c, x, r.check(l[3], 0, a)), a
	case "let":
		x, a := r.coerced(l[1].L[1])
		y, b := r.with(l[1].L[0].S, 0, a).coerced(l[2])
		return of(api.OLet, x, y), lowered(b)
	case "fix":
		a := r.check(l[1].L[1], 1, ty())
		return of(api.OFix, a, r.with(l[1].L[0].S, 0, a).check(l[2], 0, term.Shift(settled(a), 1, 0))), a
	case "pair":
		x, stage, a := r.infer(l[1])
		unless(stage == 0, api.ErrGuess)
		y, b := r.coerced(l[2])
		return of(api.OPair, x, y), tPro(a, b)
	case "splice":
		x, stage, a := r.infer(l[1])
		unless(stage == 1 && a.Op == api.Lift, api.ErrStage)
		return spl(x), a.Kids[0]
	}
	x := r.check(l[1], 0, whole())
	y := r.check(l[2], 0, whole())
	return numbered(api.OPrim, map[string]int{"add": api.PAdd, "sub": api.PSub, "mul": api.PMul, "div": api.PDiv, "less": api.PLes}[w], x, y), whole()
}

func (r teller) check(f api.Form, stage int, a api.Tm) api.Tm {
	w := "number"
	switch f.Kind {
	case api.FName:
		w = "name"
	case api.FList:
		w = kindOf(f.L)
	}
	l := f.L
	switch {
	case stage == 1 && a.Op == api.Lift && (w == "number" || w == "fn x" || w == "pair" || w == "if"):
		return quo(r.check(f, 0, a.Kids[0]))
	case w == "number" && stage == 1 && a.Op == api.Nat:
		unless(f.N >= 0 && f.N <= 40, api.ErrArg)
		return num(f.N)
	case w == "fn x" && stage == 1 && a.Op == api.Pi:
		return lam(a.Kids[0], r.with(l[1].S, 1, a.Kids[0]).check(l[2], 1, a.Kids[1]))
	case w == "fn x" && stage == 0 && a.Op == api.TFun:
		return oLam(a.Kids[0], r.with(l[1].S, 0, a.Kids[0]).check(l[2], 0, term.Shift(a.Kids[1], 1, 0)))
	case w == "pair" && stage == 1 && a.Op == api.Sig:
		x := r.check(l[1], 1, a.Kids[0])
		return pairOf(a, x, r.check(l[2], 1, settled(term.Subst(a.Kids[1], 0, x))))
	case w == "pair" && stage == 0 && a.Op == api.TPro:
		x := r.check(l[1], 0, a.Kids[0])
		return of(api.OPair, x, r.check(l[2], 0, a.Kids[1]))
	case w == "fn x" || w == "pair":
		panic(api.ErrShape)
	case w == "if" && stage == 0:
		c := r.check(l[1], 0, whole())
		x := r.check(l[2], 0, a)
		return of(api.OIf, c, x, r.check(l[3], 0, a))
	}
	x, at, is := r.infer(f)
	switch {
	case at == stage:
		equalOr(is, a)
		return x
	case at == 1:
		unless(is.Op == api.Lift, api.ErrStage)
		equalOr(is.Kids[0], a)
		return spl(x)
	}
	unless(a.Op == api.Lift, api.ErrStage)
	equalOr(is, a.Kids[0])
	return quo(x)
}
