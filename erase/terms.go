package erase

import (
	"thyrsus/api"
)

// typeless is a row of kids with Zero ahead, where a type stood or would stand.
func typeless(kids ...api.Tm) []api.Tm {
	return append([]api.Tm{{Op: api.Zero}}, kids...)
}

// number is what a number says; up to MaxLit it may be one of either stage.
func number(n int) api.Tm {
	if n < 0 || n > api.MaxLit {
		return api.Tm{Op: api.OInt, N: n}
	}
	t := api.Tm{Op: api.Zero}
	for range n {
		t = api.Tm{Op: api.Suc, Kids: []api.Tm{t}}
	}
	return t
}
