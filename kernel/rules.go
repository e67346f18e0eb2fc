package kernel

import (
	"thyrsus/api"
)

// rule asks what is to be asked of a node of its Op, and tells the type; it
// may leave steps in that.
type rule func(*checker, api.Tm) api.Tm

// rules are those of all Ops but Var, whose type stands in the scope.
func rules() [api.Spl + 1]rule {
	small, nat, ty, whole := level(0), leaf(api.Nat), leaf(api.Ty), leaf(api.TInt)
	return [api.Spl + 1]rule{
		api.U:    (*checker).next,
		api.Pi:   (*checker).product,
		api.Lam:  (*checker).function,
		api.App:  (*checker).call,
		api.Sig:  (*checker).product,
		api.Pair: (*checker).pair,
		api.Fst:  (*checker).first,
		api.Snd:  (*checker).second,
		api.Nat:  plain{is: small}.rule,
		api.Zero: plain{is: nat}.rule,
		api.Suc:  plain{kids: nat, is: nat}.rule,
		api.Rec:  (*checker).recursion,
		api.Ty:   plain{is: small}.rule,
		api.TInt: plain{is: ty}.rule,
		api.TFun: plain{kids: ty, is: ty}.rule,
		api.TPro: plain{kids: ty, is: ty}.rule,
		api.Lift: plain{kids: ty, is: small}.rule,
		api.Quo:  (*checker).quotation,

		api.OLam:  (*checker).codeFunction,
		api.OApp:  (*checker).codeCall,
		api.OPair: (*checker).codePair,
		api.OFst:  (*checker).codeFirst,
		api.OSnd:  (*checker).codeSecond,
		api.OInt:  plain{is: whole}.rule,
		api.OPrim: plain{kids: whole, is: whole}.rule,
		api.OIf:   (*checker).codeIf,
		api.OLet:  (*checker).codeLet,
		api.OFix:  (*checker).codeFix,
		api.Spl:   (*checker).splice,
	}
}

// plain is an Op whose kids, at its own stage, all have one type that is always
// the same, as its own one is.
type plain struct{ kids, is api.Tm }

func (p plain) rule(c *checker, t api.Tm) api.Tm {
	for _, kid := range t.Kids {
		c.check(stageOf(t.Op), kid, p.kids)
	}
	return p.is
}
