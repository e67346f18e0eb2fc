package elab

import (
	"strings"
	"testing"

	"thyrsus/api"
)

// P801: a part's errors come ahead of the next part's.
func TestPartsInTheirOrder(t *testing.T) {
	errs := []wrong{{"zz", api.ErrName}, {"U2", api.ErrLevel}, {"()", api.ErrForm}}
	for _, s := range good() {
		between, other := places(s)
		for at := range between {
			for _, first := range errs {
				l := append([]string{}, between...)
				l[at] = first.s
				refused(t, room(), filled(l, other), first.want)
				for behind := at + 1; behind < len(l); behind++ {
					for _, second := range errs {
						m := append([]string{}, l...)
						m[behind] = second.s
						refused(t, room(), filled(m, other), first.want)
					}
				}
			}
		}
	}
}

// P801: what is asked of a part comes ahead of the next part's errors.
func TestWhatIsAskedOfParts(t *testing.T) {
	refuseAll(t, room(), []wrong{
		{"(fn (k 1) zz)", api.ErrStage}, {"(fn (k n) zz)", api.ErrShape}, {"(fn k zz)", api.ErrGuess}, {"(pi (k 1) zz)", api.ErrStage}, {"(pi (k Int) zz)", api.ErrShape}, {"(sig (k n) zz)", api.ErrShape}, {"(-> 1 zz)", api.ErrStage}, {"(-> n zz)", api.ErrShape}, {"(* q zz)", api.ErrShape},
		{"(pair n zz)", api.ErrGuess}, {"(rec (k 1) zz (a h zz) zz)", api.ErrStage}, {"(rec (k Int) zz (a h zz) zz)", api.ErrShape}, {"(rec (k Nat) x (a h zz) zz)", api.ErrStage}, {"(rec (k Nat) 41 (a h zz) zz)", api.ErrArg}, {"(rec (k Nat) 0 (a h Nat) zz)", api.ErrType},
		{"(add n zz)", api.ErrStage}, {"(add inc zz)", api.ErrType}, {"(if n zz zz)", api.ErrStage}, {"(if inc zz zz)", api.ErrType}, {"(if 1 n zz)", api.ErrStage}, {"(if 1 (fn y y) zz)", api.ErrGuess}, {"(let (y n) zz)", api.ErrStage}, {"(fix (y Nat) zz)", api.ErrType}, {"(fix (y 1) zz)", api.ErrStage}, {"(the 1 zz)", api.ErrStage}, {"(the n zz)", api.ErrShape},
		{"(x zz)", api.ErrShape}, {"(n zz)", api.ErrStage}, {"(inc 1 zz)", api.ErrShape}, {"(F n zz)", api.ErrStage}, {"((fn (a Nat) (fn (b Nat) a)) x zz)", api.ErrStage}, {"((fn (a Nat) (fn (b Nat) a)) 1 zz)", api.ErrName}, {"((fn (a Nat) (fn (b Nat) a)) 1 2 zz)", api.ErrStage},
		// and behind those of the part itself
		{"(fn (k (suc zz)) U2)", api.ErrName}, {"(pair (quote zz) U2)", api.ErrName}, {"(fst (suc zz))", api.ErrName}, {"(splice (add zz 1))", api.ErrName}, {"((suc zz) U2)", api.ErrName}, {"(let (y (suc zz)) U2)", api.ErrName}, {"(fn (y Int) (pair zz y))", api.ErrName},
	})
	e := room().with("g", 1, pi(lifted(whole()), lifted(app(v(2), v(0)))))
	refuseAll(t, e, []wrong{{"(fn (y Int) (pair (g y) 1))", api.ErrGuess}, {"(fn (y Int) (pair 1 (suc (g y))))", api.ErrType}, {"(let (y 1) (add (g y) 1))", api.ErrType}, {"(pair (fn (y Int) (g y)) zz)", api.ErrScope}, {"(let (y (let (z 1) (g z))) zz)", api.ErrScope}})
	for _, x := range []struct {
		asked
		want api.Errno
	}{
		{asked{"(pair 41 zz)", 1, sig(nat(), nat())}, api.ErrArg}, {asked{"(pair x zz)", 1, sig(nat(), nat())}, api.ErrStage}, {asked{"(pair inc zz)", 0, both()}, api.ErrType}, {asked{"(if n zz zz)", 0, whole()}, api.ErrStage}, {asked{"(if 1 inc zz)", 0, whole()}, api.ErrType}, {asked{"(fn y zz)", 0, whole()}, api.ErrShape}, {asked{"(pair zz zz)", 1, nat()}, api.ErrShape},
		{asked{"(if zz U2 ())", 0, whole()}, api.ErrName}, {asked{"(if 1 U2 zz)", 0, whole()}, api.ErrLevel}, {asked{"(if 1 2 zz)", 0, whole()}, api.ErrName}, {asked{"(pair zz U2)", 1, sig(nat(), nat())}, api.ErrName}, {asked{"(pair U2 zz)", 0, both()}, api.ErrLevel}, {asked{"(if zz U2 ())", 1, nat()}, api.ErrName}, {asked{"(if 1 zz U2)", 1, lifted(whole())}, api.ErrName},
	} {
		fails(t, e, x.s, x.stage, x.a, x.want)
	}
}

// many is a number's form (of Nat) of 1133 nodes, without variables.
func many() string {
	s := "40"
	for range 3 {
		s = "(rec (k Nat) " + s + " (a h " + s + ") " + s + ")"
	}
	return s
}

// P801: term.Check's error of the whole comes behind all others.
func TestTheWholeComesLast(t *testing.T) {
	great := "((fn (a Nat) (fn (b Nat) (fn (c Nat) b))) " + strings.Repeat(many()+" ", 3) + "%)"
	with := func(s string) string { return strings.ReplaceAll(great, "%", s) }
	e := room()
	fails(t, e, strings.ReplaceAll(great, "%", ""), 1, nat(), api.ErrDeep)
	refused(t, e, strings.ReplaceAll(great, "%", ""), api.ErrDeep)
	refuseAll(t, e, []wrong{{with("zz"), api.ErrStage}, {with("1"), api.ErrStage}, {"(pair (lift " + with("") + ") zz)", api.ErrType}, {"(suc " + with("zz") + ")", api.ErrStage}})
	four := "((fn (a Nat) (fn (b Nat) (fn (c Nat) (fn (d Nat) b)))) " + strings.Repeat(many()+" ", 3) + "%)"
	for _, x := range []wrong{{"zz", api.ErrName}, {"()", api.ErrForm}, {"U2", api.ErrLevel}, {"x", api.ErrStage}, {"Nat", api.ErrType}, {"41", api.ErrArg}, {"(fn y y)", api.ErrShape}, {"(fst (fn y y))", api.ErrGuess}, {"1", api.ErrDeep}} {
		s := strings.ReplaceAll(four, "%", x.s)
		refused(t, e, s, x.want)
		fails(t, e, s, 1, nat(), x.want)
		fails(t, e, s, 1, u(0), map[bool]api.Errno{true: api.ErrType, false: x.want}[x.want == api.ErrDeep])
	}
	// what is not in the term counts for nothing
	infers(t, e, "(the (rec (k U0) Nat (a h h) "+strings.ReplaceAll(four, "%", "1")+") 2)", "(12 (12 11))", 1, "10")
}
