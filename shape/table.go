package shape

import (
	"thyrsus/api"
)

// How a form must stand where it is a part of a list: a letter for each part.
// All other letters let any form stand.
const (
	aName  = 'n' // and no word
	aTyped = 'v' // (x A)
	aStep  = 's' // (n h s)
	aBound = 'b' // x, or (x A)
)

// behind is how the forms behind a word must stand in a list that it begins
// (nothing: it begins none, as there is one form at least behind a word);
// false: it is no word.
func behind(s string) (string, bool) {
	switch s {
	case "U0", "U1", "U2", "Nat", "zero", "Ty", "Int", "def":
		return "", true
	case "fst", "snd", "suc", "lift", "quote", "splice":
		return ".", true
	case "->", "*", "pair", "add", "sub", "mul", "div", "less", "the":
		return "..", true
	case "if":
		return "...", true
	case "fn":
		return "b.", true
	case "pi", "sig", "let", "fix":
		return "v.", true
	case "rec":
		return "v.s.", true
	}
	return "", false
}

// stand tells whether all of a list stand as they must.
func stand(l []api.Form, how string) bool {
	if len(l) != len(how) {
		return false
	}
	for i, f := range l {
		if !stands(f, how[i]) {
			return false
		}
	}
	return true
}

func stands(f api.Form, how byte) bool {
	switch how {
	case aName:
		return f.Kind == api.FName && !Word(f.S)
	case aTyped:
		return f.Kind == api.FList && stand(f.L, "n.")
	case aStep:
		return f.Kind == api.FList && stand(f.L, "nn.")
	case aBound:
		return stands(f, aName) || stands(f, aTyped)
	}
	return true
}
