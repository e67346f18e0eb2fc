package term

import (
	"math"

	"thyrsus/api"
)

const (
	maxVar  = 3000 // the greatest number of a variable
	maxKids = 4    // of Rec
)

// kids is how many each Op has.
var kids = [api.Spl + 1]int8{
	api.Fst: 1, api.Snd: 1, api.Suc: 1, api.Lift: 1, api.Quo: 1, api.OFst: 1, api.OSnd: 1, api.Spl: 1,
	api.Pi: 2, api.Lam: 2, api.App: 2, api.Sig: 2, api.TFun: 2, api.TPro: 2,
	api.OLam: 2, api.OApp: 2, api.OPair: 2, api.OPrim: 2, api.OLet: 2, api.OFix: 2,
	api.Pair: 3, api.OIf: 3,
	api.Rec: 4,
}

// binders is how many stand ahead of each kid of an Op.
var binders = [api.Spl + 1][maxKids]int8{
	api.Pi: {1: 1}, api.Lam: {1: 1}, api.Sig: {1: 1},
	api.OLam: {1: 1}, api.OLet: {1: 1}, api.OFix: {1: 1},
	api.Rec: {0: 1, 2: 2},
}

// span is the numbers from low to high.
type span struct{ low, high int }

// numbers is which N each Op may have; those that have none: 0.
var numbers = [api.Spl + 1]span{
	api.Var:   {0, maxVar},
	api.U:     {0, 2},
	api.OInt:  {math.MinInt, math.MaxInt},
	api.OPrim: {api.PAdd, api.PLes},
}

// letters stand ahead of N, where a node's text is made of that.
var letters = [api.Spl + 1]string{api.Var: "v", api.U: "U", api.OInt: "i"}

func isOp(op int) bool { return api.Var <= op && op <= api.Spl }

// mayBe tells whether a node is as its Op asks; its kids may be anything.
func mayBe(t api.Tm) bool {
	if !isOp(t.Op) || len(t.Kids) != int(kids[t.Op]) {
		return false
	}
	may := numbers[t.Op]
	return may.low <= t.N && t.N <= may.high
}

// letter tells that of an Op; an empty one: it has none.
func letter(op int) string {
	if !isOp(op) {
		return ""
	}
	return letters[op]
}
