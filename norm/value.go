package norm

import (
	"thyrsus/api"
)

// value is a node with no step left at its top. That of a variable has its
// level for n: how many binders are outside its own one, below 0 for those
// that the whole term leaves free. So a value reads the same below any binders.
type value struct {
	op, n int
	parts []*part
}

// is tells whether v is of an Op, made as that must be: what is given may be no term.
func (v *value) is(op, kids int) bool { return v.op == op && len(v.parts) == kids }

// row is what stands for the variables in scope, the last one nearest.
type row []*part

// with is the row below more binders; a new one, since others see the old one.
func (r row) with(args ...*part) row {
	out := make(row, 0, len(r)+len(args))
	return append(append(out, r...), args...)
}

// at is what stands for the variable n.
func (r row) at(n int) *part {
	if n < 0 || n >= len(r) {
		return variable(len(r) - 1 - n)
	}
	return r[len(r)-1-n]
}

// part is a kid of a value. It is run only when it is needed, and then once,
// wherever it stands: so no term takes more steps than it does by value.
type part struct {
	binders int
	scope   row
	run     func(row) *value
	got     *value
}

// variable is a part that is no more than a variable.
func variable(level int) *part {
	return &part{got: &value{op: api.Var, n: level}}
}

// value is what a part with no binders ahead of it comes to.
func (p *part) value() *value {
	if p.got == nil {
		p.got = p.run(p.scope)
		p.run, p.scope = nil, nil
	}
	return p.got
}
