package norm

import (
	"thyrsus/api"
)

// reader makes terms of values again.
type reader struct {
	*machine
	nodes int
}

// read is a part that has so many binders ahead of its own. It counts the node
// before it runs it: what is too great is told so, however long it would run.
func (r *reader) read(p *part, outside, deep int) api.Tm {
	r.nodes++
	if r.nodes > api.MaxNodes || deep > api.MaxDeep {
		r.fail(api.ErrDeep)
		return api.Tm{}
	}
	v, under := r.look(p, outside), outside+p.binders
	if v.op == api.Var {
		return api.Tm{Op: api.Var, N: under - 1 - v.n}
	}
	out := api.Tm{Op: v.op, N: v.n}
	if len(v.parts) == 0 {
		return out
	}
	out.Kids = make([]api.Tm, len(v.parts))
	for i := 0; i < len(v.parts) && r.err == api.OK; i++ {
		out.Kids[i] = r.read(v.parts[i], under, deep+1)
	}
	return out
}

// look is what a part comes to, its binders' variables being themselves.
func (r *reader) look(p *part, outside int) *value {
	if p.binders == 0 {
		return p.value()
	}
	own := make([]*part, p.binders)
	for i := range own {
		own[i] = variable(outside + i)
	}
	return r.open(p, own...)
}
