// Package code: bytes of terms. See doc/01-code.md.
package code

import (
	"thyrsus/api"
)

// Bytes tells a term's bytes: its head, then those of each of its Kids.
func Bytes(t api.Tm) []byte {
	var w writer
	walk(t, w.count)
	w.b = make([]byte, w.terms*headLen)
	walk(t, w.put)
	return w.b
}

// Parse reads a term from its bytes, all of them.
func Parse(b []byte) (api.Tm, api.Errno) {
	r := reader{left: b}
	t, e := r.term(1)
	if e != api.OK {
		return api.Tm{}, e
	}
	if len(r.left) > 0 {
		return api.Tm{}, api.ErrMore
	}
	return t, api.OK
}

// walk shows each term of t to see, one ahead of its Kids. It keeps what is
// still to come in a list of its own, since a term that is handed in may be
// deeper than the stack of calls can grow.
func walk(t api.Tm, see func(api.Tm)) {
	rows := [][]api.Tm{{t}}
	for len(rows) > 0 {
		last := len(rows) - 1
		row := rows[last]
		see(row[0])
		rows = pile(rows[:last], row[1:])
		rows = pile(rows, row[0].Kids)
	}
}

// pile leaves out an empty row, so that a long chain of single Kids takes no room.
func pile(rows [][]api.Tm, row []api.Tm) [][]api.Tm {
	if len(row) == 0 {
		return rows
	}
	return append(rows, row)
}

// writer lays heads one behind the other, into room that was counted ahead.
type writer struct {
	terms int
	b     []byte
	at    int
}

func (w *writer) count(api.Tm) { w.terms++ }

func (w *writer) put(t api.Tm) {
	h := headOf(t)
	w.at += copy(w.b[w.at:], h[:])
}

// reader takes terms from the front of the bytes that are left.
type reader struct {
	left  []byte
	terms int
}

// term may call itself: MaxDeep bounds how far.
func (r *reader) term(deep int) (api.Tm, api.Errno) {
	// Ahead of the bytes: a term that may not be is refused even where it has none.
	if deep > api.MaxDeep || r.terms == api.MaxNodes {
		return api.Tm{}, api.ErrDeep
	}
	r.terms++
	h, ok := r.head()
	if !ok {
		return api.Tm{}, api.ErrCut
	}
	kids, e := r.row(h.kids(), deep+1)
	if e != api.OK {
		return api.Tm{}, e
	}
	return api.Tm{Op: h.op(), N: h.n(), Kids: kids}, api.OK
}

// row reads as many terms as it is told, all of them equally deep.
func (r *reader) row(count, deep int) ([]api.Tm, api.Errno) {
	if count == 0 {
		return nil, api.OK
	}
	row := make([]api.Tm, count)
	for i := range row {
		t, e := r.term(deep)
		if e != api.OK {
			return nil, e
		}
		row[i] = t
	}
	return row, api.OK
}

// head takes the next one; false: bytes lack.
func (r *reader) head() (head, bool) {
	var h head
	if copy(h[:], r.left) < headLen {
		return head{}, false
	}
	r.left = r.left[headLen:]
	return h, true
}
