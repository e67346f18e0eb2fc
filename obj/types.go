package obj

import (
	"thyrsus/api"
)

// isType may call itself: a term's depth bounds how far.
func isType(a api.Tm) bool {
	if a.Op != api.TInt && a.Op != api.TFun && a.Op != api.TPro {
		return false
	}
	for _, part := range a.Kids {
		if !isType(part) {
			return false
		}
	}
	return true
}

func node(op int, kids ...api.Tm) api.Tm { return api.Tm{Op: op, Kids: kids} }

// number is the type of numbers.
func number() api.Tm { return api.Tm{Op: api.TInt} }
